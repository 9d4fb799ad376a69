/-
  Several texts in one: DecM, DecI, DecL.
-/
import Derived.Test.YtmmonglcbkefmaaGreatDoorPowA
import Derived.Test.YtmmonglcbkefmaaGreatDoorFmtP
/-
  DecimalOf: what it writes; the model's.
-/
namespace Go.Proofs.YtmmonglcbkefmaaGreatDoor
open Go.RowKit Num

/-- The decimal fraction with k digits behind the point. -/
def decTxt (b : Bool) (X Y k : Nat) : List UInt8 := (if b = true then [45] else []) ++ decL (X / Y) ++ (if 0 < k then 46 :: padL k (X * 10 ^ k / Y) else [])

theorem padL_nil (k : Nat) : padL k 0 = List.replicate k 48 := by
  induction k with
  | zero => rfl
  | succ k ih =>
    show padL k (0 / 10) ++ [UInt8.ofNat (48 + 0 % 10)] = _
    rw [Nat.zero_div, ih, List.replicate_succ']
    rfl

theorem padL_length (k d : Nat) : (padL k d).length = k := by
  induction k generalizing d with
  | zero => rfl
  | succ k ih =>
    show (padL k (d / 10) ++ [UInt8.ofNat (48 + d % 10)]).length = _
    rw [List.length_append, ih]; rfl

/-- A numeral with zeros in front: its whole part and its last k digits. -/
theorem pad_split (k Q : Nat) : List.replicate (k + 1 - (decL Q).length) 48 ++ decL Q = decL (Q / 10 ^ k) ++ padL k Q := by
  induction k generalizing Q with
  | zero =>
    have := decL_pos Q
    rw [show 0 + 1 - (decL Q).length = 0 by omega, Nat.pow_zero, Nat.div_one]
    show [] ++ decL Q = decL Q ++ []
    simp
  | succ k ih =>
    show _ = decL (Q / 10 ^ (k + 1)) ++ (padL k (Q / 10) ++ [UInt8.ofNat (48 + Q % 10)])
    rw [Nat.pow_succ, Nat.mul_comm (10 ^ k) 10, ← Nat.div_div_eq_div_mul]
    by_cases h : 10 ≤ Q
    · have hs := decL_step Q h
      have hl : (decL Q).length = (decL (Q / 10)).length + 1 := by rw [hs, List.length_append]; rfl
      rw [hl, show k + 1 + 1 - ((decL (Q / 10)).length + 1) = k + 1 - (decL (Q / 10)).length by omega, hs, ← List.append_assoc, ih, List.append_assoc]
    · have hs := decL_small Q (by omega)
      have h0 : Q / 10 = 0 := by omega
      have hd : decL 0 = [48] := rfl
      rw [h0, Nat.zero_div, padL_nil, hs, hd, Nat.mod_eq_of_lt (by omega)]
      show List.replicate (k + 1 + 1 - 1) 48 ++ _ = _
      rw [show k + 1 + 1 - 1 = k + 1 by omega, ← List.append_assoc, List.replicate_succ]
      rfl

/-- One more digit. -/
theorem dig_next (X Y j : Nat) (hY : 0 < Y) : X * 10 ^ (j + 1) / Y = 10 * (X * 10 ^ j / Y) + X * 10 ^ j % Y * 10 / Y ∧ X * 10 ^ (j + 1) % Y = X * 10 ^ j % Y * 10 % Y ∧ X * 10 ^ j % Y * 10 / Y < 10 := by
  have h := Nat.div_add_mod (X * 10 ^ j) Y
  have hr := Nat.mod_lt (X * 10 ^ j) hY
  obtain ⟨q, hq⟩ : ∃ q, q = X * 10 ^ j / Y := ⟨_, rfl⟩
  obtain ⟨r, hr'⟩ : ∃ r, r = X * 10 ^ j % Y := ⟨_, rfl⟩
  rw [← hq, ← hr'] at h
  rw [← hr'] at hr
  rw [← hq, ← hr']
  have e : X * 10 ^ (j + 1) = Y * (10 * q) + r * 10 := by
    rw [Nat.pow_succ, ← Nat.mul_assoc, ← h, Nat.add_mul, Nat.mul_assoc, Nat.mul_comm q 10]
  refine ⟨?_, ?_, ?_⟩
  · rw [e, Nat.mul_add_div hY]
  · rw [e, Nat.mul_add_mod]
  · exact Nat.div_lt_of_lt_mul (by rw [Nat.mul_comm r 10, Nat.mul_comm Y 10]; omega)

theorem pad_next (j Q c : Nat) (hc : c < 10) : padL (j + 1) (10 * Q + c) = padL j Q ++ decL c := by
  show padL j ((10 * Q + c) / 10) ++ [UInt8.ofNat (48 + (10 * Q + c) % 10)] = _
  rw [show (10 * Q + c) / 10 = Q by omega, show (10 * Q + c) % 10 = c by omega, decL_small c hc]

theorem toList_app (a b : ByteArray) : (a ++ b).toList = a.toList ++ b.toList := by
  rw [bytes_app, toList_mk]

theorem of_list {S : ByteArray} {l : List UInt8} (h : S.toList = l) : S = ⟨l.toArray⟩ := by
  rw [← h, Lib.toList_data]

theorem dec_toList (n : Nat) : (dec n).toList = decL n := toList_mk _

set_option maxRecDepth 100000 in
set_option maxHeartbeats 3200000 in
theorem specDec_yes (b : Bool) (x y : ByteArray) (n : Nat) (w : World) (hn : n ≤ 50) (hx : x.size ≤ 9223372036854775807) (hy : y.size ≤ 9223372036854775807) (hv : validR b x y = true) :
    Calls Tryz.prog 30 #[.agg #[.bool b, .string x, .string y], .int .i64 (n : Nat)] w fun e w' => e = .returned (.tuple #[.string ⟨(decTxt b (numOf x) (numOf y) n).toArray⟩, .bool true]) ∧ Below w.heap.size w w' := by
  have C1 : Hid (∀ W, _) := Lib.hid fun W => validS_any b x y W hx hy
  rw [hv] at C1
  obtain ⟨m1, m2, m3, m4⟩ := validR_num hv
  have CQ : Hid (∀ W, _) := Lib.hid fun W => toQ_any b x y W m1 m2
  have lX := num_lt_room m1
  have lY := num_lt_room m2
  have hXl := numOf_lt m1
  obtain ⟨X, hX⟩ : ∃ X, X = numOf x := ⟨_, rfl⟩
  obtain ⟨Y, hY⟩ : ∃ Y, Y = numOf y := ⟨_, rfl⟩
  rw [← hX] at CQ lX hXl ⊢
  rw [← hY] at m3 CQ lY ⊢
  have pY : 0 < Y := by omega
  have CI : Hid (∀ W, _) := Lib.hid fun W => in_any (n : Nat) 0 50 W
  rw [decide_eq_true (by omega : (0 : Int) ≤ (n : Nat) ∧ ((n : Nat) : Int) ≤ 50)] at CI
  have hwl : (dec (X / Y)).size ≤ 200 := by
    show (decL (X / Y)).length ≤ 200
    exact Nat.le_trans (decL_le 120 _ (by omega) (Nat.lt_of_le_of_lt (Nat.div_le_self _ _) hXl)) (by omega)
  have hwt := dec_toList (X / Y)
  obtain ⟨D, hD⟩ : ∃ D, D = dec (X / Y) := ⟨_, rfl⟩
  have CT : Hid (∀ (v : Value) (W : World), Nums 3 .i64 10000 W v (X / Y) → _) := Lib.hid fun v W g => text_dec v (X / Y) W g (Nat.le_trans (ln_mono 10000 _ _ (by omega) (Nat.div_le_self X Y)) (by omega))
  rw [← hD] at hwl hwt CT
  have HWT := Lib.hid hwt
  clear hX hY m1 m2 m3 m4 hv hx hy hD hwt hXl
  have hA := Box.new w 24 #[.bool b, .string x, .string y]
  have hB := (Below.refl w.heap.size w).alloc (Nat.le_refl _) (.cells #[.bool b, .string x, .string y] 24)
  obtain ⟨r0, r1, r2, _, _, _⟩ := hA.three
  have g1 : ¬ 9223372036854775807 < 1 + D.size := by omega
  have g2 : ¬ 9223372036854775807 < D.size + 1 := by omega
  have g3 : ¬ 9223372036854775807 < 1 + D.size + 1 := by omega
  cases b with
  | false =>
    go_enter Tryz.func30, Tryz.ntmps30
    go_upto_region 8 with (first
      | (go_at_call 45; refine (C1.out _).mono ?_; rintro e w1 ⟨rfl, hb⟩; replace hB := hB.trans (hb.mono hB.size); replace hA := hA.below hb hA.lt; clear hb r0 r1 r2; obtain ⟨r0, r1, r2, _, _, _⟩ := hA.three)
      | (go_at_call 66; refine (CI.out _).mono ?_; rintro e w2 ⟨rfl, rfl⟩)
      | (go_at_call 48; refine (CQ.out _).mono ?_; rintro e w3 ⟨⟨v, rfl, vn, vd, rfl, hvn, hvd⟩, hb⟩; obtain ⟨An, cn, rfl, _, _, _⟩ := RowF.open hvn; obtain ⟨Ad, cd, rfl, _, _, _⟩ := RowF.open hvd; replace hB := (hB.trans (hb.mono hB.size)).alloc (hB.trans (hb.mono hB.size)).size (.cells #[.bool false, .slice An (ln 10000 X) cn, .slice Ad (ln 10000 Y) cd] 71); replace hA := (hA.below hb hA.lt).alloc (.cells #[.bool false, .slice An (ln 10000 X) cn, .slice Ad (ln 10000 Y) cd] 71); have hK := Box.new w3 71 #[.bool false, .slice An (ln 10000 X) cn, .slice Ad (ln 10000 Y) cd]; have Hn := Lib.hid (hvn.below ((Below.refl w3.heap.size w3).alloc (Nat.le_refl _) (.cells #[.bool false, .slice An (ln 10000 X) cn, .slice Ad (ln 10000 Y) cd] 71)) (Nat.le_refl _)); have Hd := Lib.hid (hvd.below ((Below.refl w3.heap.size w3).alloc (Nat.le_refl _) (.cells #[.bool false, .slice An (ln 10000 X) cn, .slice Ad (ln 10000 Y) cd] 71)) (Nat.le_refl _)); clear hb r0 r1 r2 hvn hvd; obtain ⟨r0, r1, r2, _, _, _⟩ := hA.three; obtain ⟨k0, k1, k2, _, _, _⟩ := hK.three)
      | (go_at_call 79; refine (divNat_any _ _ X Y _ Hn.out Hd.out pY (by omega) (by omega)).mono ?_; rintro e w4 ⟨⟨v4, v5, rfl, hv4, hv5⟩, hb⟩; replace hB := hB.trans (hb.mono hB.size); replace hA := hA.below hb hA.lt; replace hK := hK.below hb hK.lt; replace Hd := Lib.hid (Hd.out.below hb (Nat.le_refl _)); have Hw := Lib.hid hv4; have Hr := Lib.hid hv5; clear hb hv4 hv5 r0 r1 r2 k0 k1 k2; obtain ⟨r0, r1, r2, _, _, _⟩ := hA.three; obtain ⟨k0, k1, k2, _, _, _⟩ := hK.three)
      | (go_at_call 69; refine (CT.out _ _ Hw.out).mono ?_; rintro e w5 ⟨rfl, hb⟩; replace hB := hB.trans (hb.mono hB.size); replace hA := hA.below hb hA.lt; replace hK := hK.below hb hK.lt; replace Hd := Lib.hid (Hd.out.below hb (Nat.le_refl _)); replace Hr := Lib.hid (Hr.out.below hb (Nat.le_refl _)); clear hb r0 r1 r2 k0 k1 k2; obtain ⟨r0, r1, r2, _, _, _⟩ := hA.three; obtain ⟨k0, k1, k2, _, _, _⟩ := hK.three))
    have hTl : D.toList = decL (X / Y) := HWT.out
    have hTs : D.size ≤ 201 := by omega
    obtain ⟨T, hT⟩ : ∃ T, T = D := ⟨_, rfl⟩
    rw [← hT] at hTl hTs ⊢
    clear hT
    obtain ⟨P0, hP0⟩ : ∃ P0 : List UInt8, P0 = decL (X / Y) ++ (if 0 < n then [46] else []) := ⟨_, rfl⟩
    have HTL := Lib.hid hTl
    have HP0 := Lib.hid hP0
    clear hTl hP0 C1 CQ CI CT Hw Hn hA r0 r1 r2 k0 k1 k2 g1 g2 g3 hwl
    have g4 : ¬ 9223372036854775807 < T.size + 1 := by omega
    have hs5 := hB.size
    have hKlt := hK.lt
    have hst : ∃ S0 : ByteArray, (if 0 < n then T ++ ⟨#[46]⟩ else T) = S0 ∧ S0.toList = P0 ∧ S0.size ≤ 202 := by
      refine ⟨_, rfl, ?_, ?_⟩
      · rw [HP0.out]
        split
        · rw [toList_app, HTL.out]; exact congrArg (_ ++ ·) (toList_mk [46])
        · rw [HTL.out, List.append_nil]
      · split
        · have h := len_list (T ++ ⟨#[46]⟩)
          have h2 := len_list T
          rw [toList_app, List.length_append, h2] at h
          have h3 : (⟨#[46]⟩ : ByteArray).toList.length = 1 := by rw [show (⟨#[46]⟩ : ByteArray).toList = [46] from toList_mk [46]]; rfl
          omega
        · omega
    obtain ⟨S0, hS0, hSl, hSs⟩ := hst
    have HSl := Lib.hid hSl
    clear hSl
    by_cases hk : 0 < n
    · rw [if_pos hk] at hS0
      have HK := Lib.hid hk
      go_wp2_with fail
      (try rw [hS0])
      clear hS0 hk
      have Hsd := Lib.hid (And.intro hs5 hKlt)
      go_loopg [1, 8, 9] n (fun q dv rv sv wr => ∃ (j : Nat) (S : ByteArray), j + q = n ∧ dv = .int .i64 (q : Nat) ∧ sv = .string S ∧ S.toList = P0 ++ padL j (X * 10 ^ j / Y) ∧ S.size ≤ 202 + 5 * j ∧ Nums 3 .i64 10000 wr rv (X * 10 ^ j % Y) ∧ Below w5.heap.size w5 wr)
      case atStart =>
        refine ⟨0, _, by omega, rfl, rfl, ?_, by omega, ?_, Below.refl _ _⟩
        · rw [HSl.out]; exact (List.append_nil _).symm
        · rw [Nat.pow_zero, Nat.mul_one]; exact Hr.out
      case round =>
        obtain ⟨j, S, hj, rfl, rfl, hSl, hSs2, hrem, hbel⟩ := hrel
        have HSL := Lib.hid hSl
        obtain ⟨N1, N2, N3⟩ := dig_next X Y j pY
        obtain ⟨R, hR⟩ : ∃ R, R = X * 10 ^ j % Y := ⟨_, rfl⟩
        have hRlt : R < Y := by rw [hR]; exact Nat.mod_lt _ pY
        rw [← hR] at hrem N1 N2 N3
        obtain ⟨c, hc⟩ : ∃ c, c = R * 10 / Y := ⟨_, rfl⟩
        rw [← hc] at N1 N3
        have NN := Lib.hid (And.intro N1 N2)
        have HC := Lib.hid hc
        have HR' := Lib.hid hR
        obtain ⟨Ar, cr, rfl, _, _, _⟩ := RowF.open hrem
        have Hr' := Lib.hid hrem
        have lR : ln 10000 R ≤ 137438953472 := Nat.le_trans (ln_mono 10000 _ _ (by omega) (Nat.le_of_lt hRlt)) lY
        have lR10 : ln 10000 (R * 10) ≤ 274877906944 := Nat.le_trans (ln_mul 10000 _ _ (by omega)) (by have : ln 10000 10 ≤ 1 := ln_le_of_lt 10000 10 1 (by omega) (by omega); omega)
        have l10 : ln 10000 10 ≤ 1 := ln_le_of_lt 10000 10 1 (by omega) (by omega)
        have hKr := hK.below hbel Hsd.out.2
        clear hSl N1 N2 hc hR hrem
        by_cases h0 : 0 < gk
        · have hEs : (dec c).size ≤ 5 := by
            show (decL c).length ≤ 5
            exact decL_len c (by omega)
          have HE := Lib.hid (dec_toList c)
          obtain ⟨E, hE⟩ : ∃ E, E = dec c := ⟨_, rfl⟩
          have CE : Hid (∀ (v : Value) (W : World), Nums 3 .i64 10000 W v c → _) := Lib.hid fun v W g => text_dec v c W g (Nat.le_trans (ln_le_of_lt 10000 c 1 (by omega) (by omega)) (by omega))
          rw [← hE] at hEs HE CE
          clear hE
          have g5 : ¬ 9223372036854775807 < S.size + E.size := by omega
          obtain ⟨t0, t1, t2, _, _, _⟩ := hKr.three
          go_upto_region 12 with fail
          go_region_held3 (fun w' => w'.cell? ⟨w3.heap.size, 0, none⟩ = some (.bool false) ∧ w'.cell? ⟨w3.heap.size, 1, none⟩ = some (.slice An (ln 10000 X) cn) ∧ w'.cell? ⟨w3.heap.size, 2, none⟩ = some (.slice Ad (ln 10000 Y) cd) ∧ Below wr.heap.size wr w')
            ((refine hold3 hKr ?_; first | exact (Below.refl _ wr).drew | (refine below_step (hold3_below (by assumption)) ?_; assumption)))
            (first
              | (go_at_call 80; refine (fromInt_eq 10 10 _ rfl (by omega)).mono ?_; rintro e w6 ⟨⟨v6, rfl, hv6⟩, hb6⟩; obtain ⟨A6, c6, rfl, _, _, _⟩ := RowF.open hv6; have K6 : Below wr.heap.size wr w6 := below_of_drew hb6; have H6 := Lib.hid hv6; clear hv6)
              | (go_at_call 68; refine (mulNat_any _ _ R 10 _ (Hr'.out.below K6 (Nat.le_refl _)) H6.out (by omega) (by omega)).mono ?_; rintro e w7 ⟨⟨v7, rfl, hv7⟩, hb7⟩; obtain ⟨A7, c7, rfl, _, _, _⟩ := RowF.open hv7; have K7 := K6.trans (hb7.mono K6.size); have H7 := Lib.hid hv7; clear hv7)
              | (go_at_call 79; refine (divNat_any _ _ (R * 10) Y _ H7.out (Hd.out.below (hbel.trans (K7.mono hbel.size)) (Nat.le_refl _)) pY (by omega) (by omega)).mono ?_; rintro e w8 ⟨⟨v8, v9, rfl, hv8, hv9⟩, hb8⟩; obtain ⟨A8, c8, rfl, _, _, _⟩ := RowF.open hv8; obtain ⟨A9, c9, rfl, _, _, _⟩ := RowF.open hv9; have K8 := K7.trans (hb8.mono K7.size); have H8 := Lib.hid hv8; have H9 := Lib.hid hv9; clear hv8 hv9))
          go_wp2_with (go_at_call 69; refine (CE.out _ _ (by rw [HC.out]; exact H8.out)).mono ?_; rintro e w10 ⟨rfl, hb10⟩)
          go_roundg (gk - 1)
          case rel =>
            refine ⟨j + 1, S ++ E, by omega, by go_num, rfl, ?_, ?_, ?_, hbel.trans ((K8.trans (hb10.mono K8.size)).mono hbel.size)⟩
            · rw [toList_app, HSL.out, HE.out, NN.out.1, pad_next _ _ _ N3, List.append_assoc]
            · have h1 := len_list (S ++ E)
              have h2 := len_list S
              have h3 := len_list E
              rw [toList_app, List.length_append, h2, h3] at h1
              omega
            · rw [NN.out.2]; exact H9.out.below hb10 (Nat.le_refl _)
          case measure => omega
        · obtain rfl : gk = 0 := by omega
          obtain rfl : j = n := by omega
          go_wp2_with fail
          go_ret2
          refine ⟨?_, hB.trans (hbel.mono Hsd.out.1)⟩
          show Ending.returned (.tuple #[.string S, .bool true]) = _
          have hS : S = ⟨(decTxt false X Y j).toArray⟩ := by
            refine (of_list HSL.out).trans (congrArg (fun l : List UInt8 => (⟨l.toArray⟩ : ByteArray)) ?_)
            rw [HP0.out]
            unfold decTxt
            rw [if_pos HK.out, if_pos HK.out]
            simp
          rw [hS]
    · rw [if_neg hk] at hS0
      have HK := Lib.hid hk
      go_wp2_with fail
      (try rw [hS0])
      clear hS0 hk
      have Hsd := Lib.hid (And.intro hs5 hKlt)
      go_loopg [1, 8, 9] n (fun q dv rv sv wr => ∃ (j : Nat) (S : ByteArray), j + q = n ∧ dv = .int .i64 (q : Nat) ∧ sv = .string S ∧ S.toList = P0 ++ padL j (X * 10 ^ j / Y) ∧ S.size ≤ 202 + 5 * j ∧ Nums 3 .i64 10000 wr rv (X * 10 ^ j % Y) ∧ Below w5.heap.size w5 wr)
      case atStart =>
        refine ⟨0, _, by omega, rfl, rfl, ?_, by omega, ?_, Below.refl _ _⟩
        · rw [HSl.out]; exact (List.append_nil _).symm
        · rw [Nat.pow_zero, Nat.mul_one]; exact Hr.out
      case round =>
        obtain ⟨j, S, hj, rfl, rfl, hSl, hSs2, hrem, hbel⟩ := hrel
        have HSL := Lib.hid hSl
        obtain ⟨N1, N2, N3⟩ := dig_next X Y j pY
        obtain ⟨R, hR⟩ : ∃ R, R = X * 10 ^ j % Y := ⟨_, rfl⟩
        have hRlt : R < Y := by rw [hR]; exact Nat.mod_lt _ pY
        rw [← hR] at hrem N1 N2 N3
        obtain ⟨c, hc⟩ : ∃ c, c = R * 10 / Y := ⟨_, rfl⟩
        rw [← hc] at N1 N3
        have NN := Lib.hid (And.intro N1 N2)
        have HC := Lib.hid hc
        have HR' := Lib.hid hR
        obtain ⟨Ar, cr, rfl, _, _, _⟩ := RowF.open hrem
        have Hr' := Lib.hid hrem
        have lR : ln 10000 R ≤ 137438953472 := Nat.le_trans (ln_mono 10000 _ _ (by omega) (Nat.le_of_lt hRlt)) lY
        have lR10 : ln 10000 (R * 10) ≤ 274877906944 := Nat.le_trans (ln_mul 10000 _ _ (by omega)) (by have : ln 10000 10 ≤ 1 := ln_le_of_lt 10000 10 1 (by omega) (by omega); omega)
        have l10 : ln 10000 10 ≤ 1 := ln_le_of_lt 10000 10 1 (by omega) (by omega)
        have hKr := hK.below hbel Hsd.out.2
        clear hSl N1 N2 hc hR hrem
        by_cases h0 : 0 < gk
        · have hEs : (dec c).size ≤ 5 := by
            show (decL c).length ≤ 5
            exact decL_len c (by omega)
          have HE := Lib.hid (dec_toList c)
          obtain ⟨E, hE⟩ : ∃ E, E = dec c := ⟨_, rfl⟩
          have CE : Hid (∀ (v : Value) (W : World), Nums 3 .i64 10000 W v c → _) := Lib.hid fun v W g => text_dec v c W g (Nat.le_trans (ln_le_of_lt 10000 c 1 (by omega) (by omega)) (by omega))
          rw [← hE] at hEs HE CE
          clear hE
          have g5 : ¬ 9223372036854775807 < S.size + E.size := by omega
          obtain ⟨t0, t1, t2, _, _, _⟩ := hKr.three
          go_upto_region 12 with fail
          go_region_held3 (fun w' => w'.cell? ⟨w3.heap.size, 0, none⟩ = some (.bool false) ∧ w'.cell? ⟨w3.heap.size, 1, none⟩ = some (.slice An (ln 10000 X) cn) ∧ w'.cell? ⟨w3.heap.size, 2, none⟩ = some (.slice Ad (ln 10000 Y) cd) ∧ Below wr.heap.size wr w')
            ((refine hold3 hKr ?_; first | exact (Below.refl _ wr).drew | (refine below_step (hold3_below (by assumption)) ?_; assumption)))
            (first
              | (go_at_call 80; refine (fromInt_eq 10 10 _ rfl (by omega)).mono ?_; rintro e w6 ⟨⟨v6, rfl, hv6⟩, hb6⟩; obtain ⟨A6, c6, rfl, _, _, _⟩ := RowF.open hv6; have K6 : Below wr.heap.size wr w6 := below_of_drew hb6; have H6 := Lib.hid hv6; clear hv6)
              | (go_at_call 68; refine (mulNat_any _ _ R 10 _ (Hr'.out.below K6 (Nat.le_refl _)) H6.out (by omega) (by omega)).mono ?_; rintro e w7 ⟨⟨v7, rfl, hv7⟩, hb7⟩; obtain ⟨A7, c7, rfl, _, _, _⟩ := RowF.open hv7; have K7 := K6.trans (hb7.mono K6.size); have H7 := Lib.hid hv7; clear hv7)
              | (go_at_call 79; refine (divNat_any _ _ (R * 10) Y _ H7.out (Hd.out.below (hbel.trans (K7.mono hbel.size)) (Nat.le_refl _)) pY (by omega) (by omega)).mono ?_; rintro e w8 ⟨⟨v8, v9, rfl, hv8, hv9⟩, hb8⟩; obtain ⟨A8, c8, rfl, _, _, _⟩ := RowF.open hv8; obtain ⟨A9, c9, rfl, _, _, _⟩ := RowF.open hv9; have K8 := K7.trans (hb8.mono K7.size); have H8 := Lib.hid hv8; have H9 := Lib.hid hv9; clear hv8 hv9))
          go_wp2_with (go_at_call 69; refine (CE.out _ _ (by rw [HC.out]; exact H8.out)).mono ?_; rintro e w10 ⟨rfl, hb10⟩)
          go_roundg (gk - 1)
          case rel =>
            refine ⟨j + 1, S ++ E, by omega, by go_num, rfl, ?_, ?_, ?_, hbel.trans ((K8.trans (hb10.mono K8.size)).mono hbel.size)⟩
            · rw [toList_app, HSL.out, HE.out, NN.out.1, pad_next _ _ _ N3, List.append_assoc]
            · have h1 := len_list (S ++ E)
              have h2 := len_list S
              have h3 := len_list E
              rw [toList_app, List.length_append, h2, h3] at h1
              omega
            · rw [NN.out.2]; exact H9.out.below hb10 (Nat.le_refl _)
          case measure => omega
        · obtain rfl : gk = 0 := by omega
          obtain rfl : j = n := by omega
          go_wp2_with fail
          go_ret2
          refine ⟨?_, hB.trans (hbel.mono Hsd.out.1)⟩
          show Ending.returned (.tuple #[.string S, .bool true]) = _
          have hS : S = ⟨(decTxt false X Y j).toArray⟩ := by
            refine (of_list HSL.out).trans (congrArg (fun l : List UInt8 => (⟨l.toArray⟩ : ByteArray)) ?_)
            rw [HP0.out]
            unfold decTxt
            rw [if_neg HK.out, if_neg HK.out]
            obtain rfl : j = 0 := by have := HK.out; omega
            simp [padL]
          rw [hS]
  | true =>
    go_enter Tryz.func30, Tryz.ntmps30
    go_upto_region 8 with (first
      | (go_at_call 45; refine (C1.out _).mono ?_; rintro e w1 ⟨rfl, hb⟩; replace hB := hB.trans (hb.mono hB.size); replace hA := hA.below hb hA.lt; clear hb r0 r1 r2; obtain ⟨r0, r1, r2, _, _, _⟩ := hA.three)
      | (go_at_call 66; refine (CI.out _).mono ?_; rintro e w2 ⟨rfl, rfl⟩)
      | (go_at_call 48; refine (CQ.out _).mono ?_; rintro e w3 ⟨⟨v, rfl, vn, vd, rfl, hvn, hvd⟩, hb⟩; obtain ⟨An, cn, rfl, _, _, _⟩ := RowF.open hvn; obtain ⟨Ad, cd, rfl, _, _, _⟩ := RowF.open hvd; replace hB := (hB.trans (hb.mono hB.size)).alloc (hB.trans (hb.mono hB.size)).size (.cells #[.bool true, .slice An (ln 10000 X) cn, .slice Ad (ln 10000 Y) cd] 71); replace hA := (hA.below hb hA.lt).alloc (.cells #[.bool true, .slice An (ln 10000 X) cn, .slice Ad (ln 10000 Y) cd] 71); have hK := Box.new w3 71 #[.bool true, .slice An (ln 10000 X) cn, .slice Ad (ln 10000 Y) cd]; have Hn := Lib.hid (hvn.below ((Below.refl w3.heap.size w3).alloc (Nat.le_refl _) (.cells #[.bool true, .slice An (ln 10000 X) cn, .slice Ad (ln 10000 Y) cd] 71)) (Nat.le_refl _)); have Hd := Lib.hid (hvd.below ((Below.refl w3.heap.size w3).alloc (Nat.le_refl _) (.cells #[.bool true, .slice An (ln 10000 X) cn, .slice Ad (ln 10000 Y) cd] 71)) (Nat.le_refl _)); clear hb r0 r1 r2 hvn hvd; obtain ⟨r0, r1, r2, _, _, _⟩ := hA.three; obtain ⟨k0, k1, k2, _, _, _⟩ := hK.three)
      | (go_at_call 79; refine (divNat_any _ _ X Y _ Hn.out Hd.out pY (by omega) (by omega)).mono ?_; rintro e w4 ⟨⟨v4, v5, rfl, hv4, hv5⟩, hb⟩; replace hB := hB.trans (hb.mono hB.size); replace hA := hA.below hb hA.lt; replace hK := hK.below hb hK.lt; replace Hd := Lib.hid (Hd.out.below hb (Nat.le_refl _)); have Hw := Lib.hid hv4; have Hr := Lib.hid hv5; clear hb hv4 hv5 r0 r1 r2 k0 k1 k2; obtain ⟨r0, r1, r2, _, _, _⟩ := hA.three; obtain ⟨k0, k1, k2, _, _, _⟩ := hK.three)
      | (go_at_call 69; refine (CT.out _ _ Hw.out).mono ?_; rintro e w5 ⟨rfl, hb⟩; replace hB := hB.trans (hb.mono hB.size); replace hA := hA.below hb hA.lt; replace hK := hK.below hb hK.lt; replace Hd := Lib.hid (Hd.out.below hb (Nat.le_refl _)); replace Hr := Lib.hid (Hr.out.below hb (Nat.le_refl _)); clear hb r0 r1 r2 k0 k1 k2; obtain ⟨r0, r1, r2, _, _, _⟩ := hA.three; obtain ⟨k0, k1, k2, _, _, _⟩ := hK.three))
    have hTl : (⟨#[45]⟩ ++ D : ByteArray).toList = [45] ++ decL (X / Y) := by rw [toList_app, HWT.out]; exact congrArg (· ++ _) (toList_mk [45])
    have hTs : (⟨#[45]⟩ ++ D : ByteArray).size ≤ 201 := by
      have h := len_list (⟨#[45]⟩ ++ D)
      have h2 := len_list D
      rw [HWT.out] at h2
      rw [hTl, List.length_append, h2] at h
      show _ ≤ 201
      simp only [List.length_cons, List.length_nil] at h
      omega
    obtain ⟨T, hT⟩ : ∃ T, T = (⟨#[45]⟩ ++ D : ByteArray) := ⟨_, rfl⟩
    rw [← hT] at hTl hTs ⊢
    clear hT
    obtain ⟨P0, hP0⟩ : ∃ P0 : List UInt8, P0 = [45] ++ decL (X / Y) ++ (if 0 < n then [46] else []) := ⟨_, rfl⟩
    have HTL := Lib.hid hTl
    have HP0 := Lib.hid hP0
    clear hTl hP0 C1 CQ CI CT Hw Hn hA r0 r1 r2 k0 k1 k2 g1 g2 g3 hwl
    have g4 : ¬ 9223372036854775807 < T.size + 1 := by omega
    have hs5 := hB.size
    have hKlt := hK.lt
    have hst : ∃ S0 : ByteArray, (if 0 < n then T ++ ⟨#[46]⟩ else T) = S0 ∧ S0.toList = P0 ∧ S0.size ≤ 202 := by
      refine ⟨_, rfl, ?_, ?_⟩
      · rw [HP0.out]
        split
        · rw [toList_app, HTL.out]; exact congrArg (_ ++ ·) (toList_mk [46])
        · rw [HTL.out, List.append_nil]
      · split
        · have h := len_list (T ++ ⟨#[46]⟩)
          have h2 := len_list T
          rw [toList_app, List.length_append, h2] at h
          have h3 : (⟨#[46]⟩ : ByteArray).toList.length = 1 := by rw [show (⟨#[46]⟩ : ByteArray).toList = [46] from toList_mk [46]]; rfl
          omega
        · omega
    obtain ⟨S0, hS0, hSl, hSs⟩ := hst
    have HSl := Lib.hid hSl
    clear hSl
    by_cases hk : 0 < n
    · rw [if_pos hk] at hS0
      have HK := Lib.hid hk
      go_wp2_with fail
      (try rw [hS0])
      clear hS0 hk
      have Hsd := Lib.hid (And.intro hs5 hKlt)
      go_loopg [1, 8, 9] n (fun q dv rv sv wr => ∃ (j : Nat) (S : ByteArray), j + q = n ∧ dv = .int .i64 (q : Nat) ∧ sv = .string S ∧ S.toList = P0 ++ padL j (X * 10 ^ j / Y) ∧ S.size ≤ 202 + 5 * j ∧ Nums 3 .i64 10000 wr rv (X * 10 ^ j % Y) ∧ Below w5.heap.size w5 wr)
      case atStart =>
        refine ⟨0, _, by omega, rfl, rfl, ?_, by omega, ?_, Below.refl _ _⟩
        · rw [HSl.out]; exact (List.append_nil _).symm
        · rw [Nat.pow_zero, Nat.mul_one]; exact Hr.out
      case round =>
        obtain ⟨j, S, hj, rfl, rfl, hSl, hSs2, hrem, hbel⟩ := hrel
        have HSL := Lib.hid hSl
        obtain ⟨N1, N2, N3⟩ := dig_next X Y j pY
        obtain ⟨R, hR⟩ : ∃ R, R = X * 10 ^ j % Y := ⟨_, rfl⟩
        have hRlt : R < Y := by rw [hR]; exact Nat.mod_lt _ pY
        rw [← hR] at hrem N1 N2 N3
        obtain ⟨c, hc⟩ : ∃ c, c = R * 10 / Y := ⟨_, rfl⟩
        rw [← hc] at N1 N3
        have NN := Lib.hid (And.intro N1 N2)
        have HC := Lib.hid hc
        have HR' := Lib.hid hR
        obtain ⟨Ar, cr, rfl, _, _, _⟩ := RowF.open hrem
        have Hr' := Lib.hid hrem
        have lR : ln 10000 R ≤ 137438953472 := Nat.le_trans (ln_mono 10000 _ _ (by omega) (Nat.le_of_lt hRlt)) lY
        have lR10 : ln 10000 (R * 10) ≤ 274877906944 := Nat.le_trans (ln_mul 10000 _ _ (by omega)) (by have : ln 10000 10 ≤ 1 := ln_le_of_lt 10000 10 1 (by omega) (by omega); omega)
        have l10 : ln 10000 10 ≤ 1 := ln_le_of_lt 10000 10 1 (by omega) (by omega)
        have hKr := hK.below hbel Hsd.out.2
        clear hSl N1 N2 hc hR hrem
        by_cases h0 : 0 < gk
        · have hEs : (dec c).size ≤ 5 := by
            show (decL c).length ≤ 5
            exact decL_len c (by omega)
          have HE := Lib.hid (dec_toList c)
          obtain ⟨E, hE⟩ : ∃ E, E = dec c := ⟨_, rfl⟩
          have CE : Hid (∀ (v : Value) (W : World), Nums 3 .i64 10000 W v c → _) := Lib.hid fun v W g => text_dec v c W g (Nat.le_trans (ln_le_of_lt 10000 c 1 (by omega) (by omega)) (by omega))
          rw [← hE] at hEs HE CE
          clear hE
          have g5 : ¬ 9223372036854775807 < S.size + E.size := by omega
          obtain ⟨t0, t1, t2, _, _, _⟩ := hKr.three
          go_upto_region 12 with fail
          go_region_held3 (fun w' => w'.cell? ⟨w3.heap.size, 0, none⟩ = some (.bool true) ∧ w'.cell? ⟨w3.heap.size, 1, none⟩ = some (.slice An (ln 10000 X) cn) ∧ w'.cell? ⟨w3.heap.size, 2, none⟩ = some (.slice Ad (ln 10000 Y) cd) ∧ Below wr.heap.size wr w')
            ((refine hold3 hKr ?_; first | exact (Below.refl _ wr).drew | (refine below_step (hold3_below (by assumption)) ?_; assumption)))
            (first
              | (go_at_call 80; refine (fromInt_eq 10 10 _ rfl (by omega)).mono ?_; rintro e w6 ⟨⟨v6, rfl, hv6⟩, hb6⟩; obtain ⟨A6, c6, rfl, _, _, _⟩ := RowF.open hv6; have K6 : Below wr.heap.size wr w6 := below_of_drew hb6; have H6 := Lib.hid hv6; clear hv6)
              | (go_at_call 68; refine (mulNat_any _ _ R 10 _ (Hr'.out.below K6 (Nat.le_refl _)) H6.out (by omega) (by omega)).mono ?_; rintro e w7 ⟨⟨v7, rfl, hv7⟩, hb7⟩; obtain ⟨A7, c7, rfl, _, _, _⟩ := RowF.open hv7; have K7 := K6.trans (hb7.mono K6.size); have H7 := Lib.hid hv7; clear hv7)
              | (go_at_call 79; refine (divNat_any _ _ (R * 10) Y _ H7.out (Hd.out.below (hbel.trans (K7.mono hbel.size)) (Nat.le_refl _)) pY (by omega) (by omega)).mono ?_; rintro e w8 ⟨⟨v8, v9, rfl, hv8, hv9⟩, hb8⟩; obtain ⟨A8, c8, rfl, _, _, _⟩ := RowF.open hv8; obtain ⟨A9, c9, rfl, _, _, _⟩ := RowF.open hv9; have K8 := K7.trans (hb8.mono K7.size); have H8 := Lib.hid hv8; have H9 := Lib.hid hv9; clear hv8 hv9))
          go_wp2_with (go_at_call 69; refine (CE.out _ _ (by rw [HC.out]; exact H8.out)).mono ?_; rintro e w10 ⟨rfl, hb10⟩)
          go_roundg (gk - 1)
          case rel =>
            refine ⟨j + 1, S ++ E, by omega, by go_num, rfl, ?_, ?_, ?_, hbel.trans ((K8.trans (hb10.mono K8.size)).mono hbel.size)⟩
            · rw [toList_app, HSL.out, HE.out, NN.out.1, pad_next _ _ _ N3, List.append_assoc]
            · have h1 := len_list (S ++ E)
              have h2 := len_list S
              have h3 := len_list E
              rw [toList_app, List.length_append, h2, h3] at h1
              omega
            · rw [NN.out.2]; exact H9.out.below hb10 (Nat.le_refl _)
          case measure => omega
        · obtain rfl : gk = 0 := by omega
          obtain rfl : j = n := by omega
          go_wp2_with fail
          go_ret2
          refine ⟨?_, hB.trans (hbel.mono Hsd.out.1)⟩
          show Ending.returned (.tuple #[.string S, .bool true]) = _
          have hS : S = ⟨(decTxt true X Y j).toArray⟩ := by
            refine (of_list HSL.out).trans (congrArg (fun l : List UInt8 => (⟨l.toArray⟩ : ByteArray)) ?_)
            rw [HP0.out]
            unfold decTxt
            rw [if_pos HK.out, if_pos HK.out]
            simp
          rw [hS]
    · rw [if_neg hk] at hS0
      have HK := Lib.hid hk
      go_wp2_with fail
      (try rw [hS0])
      clear hS0 hk
      have Hsd := Lib.hid (And.intro hs5 hKlt)
      go_loopg [1, 8, 9] n (fun q dv rv sv wr => ∃ (j : Nat) (S : ByteArray), j + q = n ∧ dv = .int .i64 (q : Nat) ∧ sv = .string S ∧ S.toList = P0 ++ padL j (X * 10 ^ j / Y) ∧ S.size ≤ 202 + 5 * j ∧ Nums 3 .i64 10000 wr rv (X * 10 ^ j % Y) ∧ Below w5.heap.size w5 wr)
      case atStart =>
        refine ⟨0, _, by omega, rfl, rfl, ?_, by omega, ?_, Below.refl _ _⟩
        · rw [HSl.out]; exact (List.append_nil _).symm
        · rw [Nat.pow_zero, Nat.mul_one]; exact Hr.out
      case round =>
        obtain ⟨j, S, hj, rfl, rfl, hSl, hSs2, hrem, hbel⟩ := hrel
        have HSL := Lib.hid hSl
        obtain ⟨N1, N2, N3⟩ := dig_next X Y j pY
        obtain ⟨R, hR⟩ : ∃ R, R = X * 10 ^ j % Y := ⟨_, rfl⟩
        have hRlt : R < Y := by rw [hR]; exact Nat.mod_lt _ pY
        rw [← hR] at hrem N1 N2 N3
        obtain ⟨c, hc⟩ : ∃ c, c = R * 10 / Y := ⟨_, rfl⟩
        rw [← hc] at N1 N3
        have NN := Lib.hid (And.intro N1 N2)
        have HC := Lib.hid hc
        have HR' := Lib.hid hR
        obtain ⟨Ar, cr, rfl, _, _, _⟩ := RowF.open hrem
        have Hr' := Lib.hid hrem
        have lR : ln 10000 R ≤ 137438953472 := Nat.le_trans (ln_mono 10000 _ _ (by omega) (Nat.le_of_lt hRlt)) lY
        have lR10 : ln 10000 (R * 10) ≤ 274877906944 := Nat.le_trans (ln_mul 10000 _ _ (by omega)) (by have : ln 10000 10 ≤ 1 := ln_le_of_lt 10000 10 1 (by omega) (by omega); omega)
        have l10 : ln 10000 10 ≤ 1 := ln_le_of_lt 10000 10 1 (by omega) (by omega)
        have hKr := hK.below hbel Hsd.out.2
        clear hSl N1 N2 hc hR hrem
        by_cases h0 : 0 < gk
        · have hEs : (dec c).size ≤ 5 := by
            show (decL c).length ≤ 5
            exact decL_len c (by omega)
          have HE := Lib.hid (dec_toList c)
          obtain ⟨E, hE⟩ : ∃ E, E = dec c := ⟨_, rfl⟩
          have CE : Hid (∀ (v : Value) (W : World), Nums 3 .i64 10000 W v c → _) := Lib.hid fun v W g => text_dec v c W g (Nat.le_trans (ln_le_of_lt 10000 c 1 (by omega) (by omega)) (by omega))
          rw [← hE] at hEs HE CE
          clear hE
          have g5 : ¬ 9223372036854775807 < S.size + E.size := by omega
          obtain ⟨t0, t1, t2, _, _, _⟩ := hKr.three
          go_upto_region 12 with fail
          go_region_held3 (fun w' => w'.cell? ⟨w3.heap.size, 0, none⟩ = some (.bool true) ∧ w'.cell? ⟨w3.heap.size, 1, none⟩ = some (.slice An (ln 10000 X) cn) ∧ w'.cell? ⟨w3.heap.size, 2, none⟩ = some (.slice Ad (ln 10000 Y) cd) ∧ Below wr.heap.size wr w')
            ((refine hold3 hKr ?_; first | exact (Below.refl _ wr).drew | (refine below_step (hold3_below (by assumption)) ?_; assumption)))
            (first
              | (go_at_call 80; refine (fromInt_eq 10 10 _ rfl (by omega)).mono ?_; rintro e w6 ⟨⟨v6, rfl, hv6⟩, hb6⟩; obtain ⟨A6, c6, rfl, _, _, _⟩ := RowF.open hv6; have K6 : Below wr.heap.size wr w6 := below_of_drew hb6; have H6 := Lib.hid hv6; clear hv6)
              | (go_at_call 68; refine (mulNat_any _ _ R 10 _ (Hr'.out.below K6 (Nat.le_refl _)) H6.out (by omega) (by omega)).mono ?_; rintro e w7 ⟨⟨v7, rfl, hv7⟩, hb7⟩; obtain ⟨A7, c7, rfl, _, _, _⟩ := RowF.open hv7; have K7 := K6.trans (hb7.mono K6.size); have H7 := Lib.hid hv7; clear hv7)
              | (go_at_call 79; refine (divNat_any _ _ (R * 10) Y _ H7.out (Hd.out.below (hbel.trans (K7.mono hbel.size)) (Nat.le_refl _)) pY (by omega) (by omega)).mono ?_; rintro e w8 ⟨⟨v8, v9, rfl, hv8, hv9⟩, hb8⟩; obtain ⟨A8, c8, rfl, _, _, _⟩ := RowF.open hv8; obtain ⟨A9, c9, rfl, _, _, _⟩ := RowF.open hv9; have K8 := K7.trans (hb8.mono K7.size); have H8 := Lib.hid hv8; have H9 := Lib.hid hv9; clear hv8 hv9))
          go_wp2_with (go_at_call 69; refine (CE.out _ _ (by rw [HC.out]; exact H8.out)).mono ?_; rintro e w10 ⟨rfl, hb10⟩)
          go_roundg (gk - 1)
          case rel =>
            refine ⟨j + 1, S ++ E, by omega, by go_num, rfl, ?_, ?_, ?_, hbel.trans ((K8.trans (hb10.mono K8.size)).mono hbel.size)⟩
            · rw [toList_app, HSL.out, HE.out, NN.out.1, pad_next _ _ _ N3, List.append_assoc]
            · have h1 := len_list (S ++ E)
              have h2 := len_list S
              have h3 := len_list E
              rw [toList_app, List.length_append, h2, h3] at h1
              omega
            · rw [NN.out.2]; exact H9.out.below hb10 (Nat.le_refl _)
          case measure => omega
        · obtain rfl : gk = 0 := by omega
          obtain rfl : j = n := by omega
          go_wp2_with fail
          go_ret2
          refine ⟨?_, hB.trans (hbel.mono Hsd.out.1)⟩
          show Ending.returned (.tuple #[.string S, .bool true]) = _
          have hS : S = ⟨(decTxt true X Y j).toArray⟩ := by
            refine (of_list HSL.out).trans (congrArg (fun l : List UInt8 => (⟨l.toArray⟩ : ByteArray)) ?_)
            rw [HP0.out]
            unfold decTxt
            rw [if_neg HK.out, if_neg HK.out]
            obtain rfl : j = 0 := by have := HK.out; omega
            simp [padL]
          rw [hS]

end Go.Proofs.YtmmonglcbkefmaaGreatDoor
/-
  The program's DecimalOf.
-/
namespace Go.Proofs.YtmmonglcbkefmaaGreatDoor
open Go.RowKit Num

theorem take_text (s : ByteArray) (k : Nat) : (s.extract 0 k).toList = s.toList.take k := by
  rw [Lib.toList_data, Lib.toList_data, ByteArray.data_extract, Array.toList_extract]
  simp [List.extract]

theorem drop_text (s : ByteArray) (k : Nat) : (s.extract k s.size).toList = s.toList.drop k := by
  rw [Lib.toList_data, Lib.toList_data, ByteArray.data_extract, Array.toList_extract]
  have h : s.size = s.data.toList.length := rfl
  simp only [List.extract]
  exact List.take_of_length_le (by rw [List.length_drop, h]; exact Nat.le_refl _)

theorem nums_word {w : World} {g x : Nat} (hx : 0 < x) (hw : x < 18446744073709551616) (h : Box w g 54 #[.int .u64 (x : Nat)]) : Nums 54 .u64 WB w (.slice (some ⟨g, 0, none⟩) 1 1) x := by
  have hd : digs WB x = [x] := digs_small WB x WB_two hx (by unfold WB; omega)
  have hl : ln WB x = 1 := by rw [ln, hd]; rfl
  refine .inr ⟨g, 0, 1, by rw [hl], by rw [hl]; omega, by unfold maxLen; omega, ⟨_, h⟩, fun j hj => ?_⟩
  rw [hl] at hj
  obtain rfl : j = 0 := by omega
  rw [h.cell, hd]; rfl

theorem ln_ten (n : Nat) (hn : n ≤ 50) : ln WB (10 ^ n) ≤ 7 := ln_le_of_lt WB _ 7 WB_two (Nat.lt_of_le_of_lt (Nat.pow_le_pow_right (by omega) hn) (by unfold WB; decide))

theorem quot_small (X Y n : Nat) (hX : X < 10 ^ 120) (hn : n ≤ 50) : X * 10 ^ n / Y < 10000000000000000000 ^ 22 := by
  have h1 : X * 10 ^ n ≤ 10 ^ 120 * 10 ^ 50 := Nat.mul_le_mul (Nat.le_of_lt hX) (Nat.pow_le_pow_right (by omega) hn)
  have h2 : (10 : Nat) ^ 120 * 10 ^ 50 < 10000000000000000000 ^ 22 := by decide
  exact Nat.lt_of_le_of_lt (Nat.div_le_self _ _) (Nat.lt_of_le_of_lt h1 h2)

theorem whole_part (X Y n : Nat) : X * 10 ^ n / Y / 10 ^ n = X / Y := by
  rw [Nat.div_div_eq_div_mul, Nat.mul_div_mul_right _ _ (Nat.pow_pos (by omega))]

theorem scale_any (n P g : Nat) (hP : P = 10 ^ n) (hn : n ≤ 50) (w : World) (h : Box w g 54 #[.int .u64 10]) :
    Calls Tryz.prog 65 #[.slice (some ⟨g, 0, none⟩) 1 1, .int .i64 (n : Nat)] w fun e w' => (∃ q m c, e = .returned (.tuple #[.slice q m c, .bool true]) ∧ Nums 54 .u64 WB w' (.slice q m c) P) ∧ Below w.heap.size w w' := by
  have h10 : ln WB 10 ≤ 7 := ln_le_of_lt WB 10 7 WB_two (by unfold WB; decide)
  refine (powW_any _ 10 n w (nums_word (x := 10) (by omega) (by omega) h) (by omega) h10).mono ?_
  rintro e w' ⟨⟨v, rfl, ⟨q, m, c, rfl⟩, h5⟩, hb⟩
  have hl := ln_ten n hn
  refine ⟨⟨q, m, c, ?_, ?_⟩, hb⟩
  · rw [decide_eq_true hl]
  · rw [hP]; exact h5 hl

set_option maxRecDepth 100000 in
set_option maxHeartbeats 3200000 in
theorem implDec_yes (b : Bool) (x y : ByteArray) (n : Nat) (w : World) (hn : n ≤ 50) (hx : x.size ≤ 9223372036854775807) (hy : y.size ≤ 9223372036854775807) (hU : UnitB w) (hT : Tab64 w) (hP : TabP w) (hv : validR b x y = true) :
    Calls Tryz.prog 29 #[.agg #[.bool b, .string x, .string y], .int .i64 (n : Nat)] w fun e w' => e = .returned (.tuple #[.string ⟨(decTxt b (numOf x) (numOf y) n).toArray⟩, .bool true]) ∧ Below w.heap.size w w' := by
  have CF : Hid (∀ W, Below w.heap.size w W → _) := Lib.hid fun W hW => fracOf_all b x y W hx hy (hU.below hW) (hT.below hW)
  rw [hv] at CF
  obtain ⟨m1, m2, m3, _⟩ := validR_num hv
  have lX := ln_capS m1
  have lY := ln_capS m2
  have hXl := numOf_lt m1
  obtain ⟨X, hX⟩ : ∃ X, X = numOf x := ⟨_, rfl⟩
  obtain ⟨Y, hY⟩ : ∃ Y, Y = numOf y := ⟨_, rfl⟩
  rw [← hX] at CF lX hXl ⊢
  rw [← hY] at CF lY m3 ⊢
  have pY : 0 < Y := by omega
  have lT := ln_ten n hn
  have hq := quot_small X Y n hXl hn
  have hwp := whole_part X Y n
  obtain ⟨Q, hQ⟩ : ∃ Q, Q = X * 10 ^ n / Y := ⟨_, rfl⟩
  rw [← hQ] at hq hwp
  have hsp := pad_split n Q
  rw [hwp] at hsp
  have CD : Hid (∀ (v : Value) (W : World), Below w.heap.size w W → Nums 54 .u64 WB W v Q → _) := Lib.hid fun v W hW g => decOf_all Q hq v W (staysP.below _ _ hP hW) g
  have hDl : (decL Q).length ≤ 171 := decL_le 171 Q (by omega) (by
    rw [hQ]
    have h1 : X * 10 ^ n ≤ 10 ^ 120 * 10 ^ 50 := Nat.mul_le_mul (Nat.le_of_lt hXl) (Nat.pow_le_pow_right (by omega) hn)
    have h2 : (10 : Nat) ^ 120 * 10 ^ 50 < 10 ^ 171 := by decide
    exact Nat.lt_of_le_of_lt (Nat.div_le_self _ _) (Nat.lt_of_le_of_lt h1 h2))
  obtain ⟨P, hPP⟩ : ∃ P, P = 10 ^ n := ⟨_, rfl⟩
  have HQ := Lib.hid (show X * P / Y = Q by rw [hPP, hQ])
  have CP : Hid (∀ g W, _) := Lib.hid fun g W => scale_any n P g hPP hn W
  have lP : ln WB P ≤ 7 := by rw [hPP]; exact lT
  have lXP : ln WB (X * P) ≤ 14 := Nat.le_trans (ln_mul WB _ _ WB_two) (by omega)
  have HTXT := Lib.hid (show decTxt b X Y n = (if b = true then [45] else []) ++ decL (X / Y) ++ (if 0 < n then 46 :: padL n Q else []) by rw [hQ]; rfl)
  have hbody : ∃ t, t = decTxt b X Y n := ⟨_, rfl⟩
  obtain ⟨t, ht⟩ := hbody
  rw [← ht]
  have HTT := Lib.hid ht
  have hDs : (dec Q).size = (decL Q).length := rfl
  have hDt := dec_toList Q
  obtain ⟨D, hD⟩ : ∃ D, D = dec Q := ⟨_, rfl⟩
  rw [← hD] at CD hDs hDt
  have HSP := Lib.hid hsp
  have HDT := Lib.hid hDt
  obtain ⟨c, hc⟩ : ∃ c, c = n + 1 - (decL Q).length := ⟨_, rfl⟩
  rw [← hDs] at hDl
  have hcD : c = n + 1 - D.size := by rw [hc, hDs]
  have HCQ := Lib.hid hc
  clear hX hY hU hT hP hv m1 m2 hx hy hq hwp hQ hPP hsp hXl lT ht hD hDs hDt hc
  have hA := Box.new w 24 #[.bool b, .string x, .string y]
  have hB := (Below.refl w.heap.size w).alloc (Nat.le_refl _) (.cells #[.bool b, .string x, .string y] 24)
  obtain ⟨r0, r1, r2, _, _, _⟩ := hA.three
  have hd1 : decide ((n : Int) < 0) = false := decide_eq_false (by omega)
  have hd2 : decide ((50 : Int) < (n : Int)) = false := decide_eq_false (by omega)
  go_enter Tryz.func29, Tryz.ntmps29
  go_upto_region 5 with (first
    | (go_at_call 58; refine (CF.out _ hB).mono ?_; rintro e w1 ⟨hh, hb⟩; rw [if_pos rfl] at hh; obtain ⟨vn, vd, rfl, hvn, hvd⟩ := hh; obtain ⟨An, cn, rfl, _, _, _⟩ := RowF.open hvn; obtain ⟨Ad, cd, rfl, _, _, _⟩ := RowF.open hvd; have hB1 := (hB.trans (hb.mono hB.size)).alloc (hB.trans (hb.mono hB.size)).size (.cells #[.bool b, .slice An (ln WB X) cn, .slice Ad (ln WB Y) cd] 62); have hK := Box.new w1 62 #[.bool b, .slice An (ln WB X) cn, .slice Ad (ln WB Y) cd]; have Hn := Lib.hid (hvn.below ((Below.refl w1.heap.size w1).alloc (Nat.le_refl _) (.cells #[.bool b, .slice An (ln WB X) cn, .slice Ad (ln WB Y) cd] 62)) (Nat.le_refl _)); have Hd := Lib.hid (hvd.below ((Below.refl w1.heap.size w1).alloc (Nat.le_refl _) (.cells #[.bool b, .slice An (ln WB X) cn, .slice Ad (ln WB Y) cd] 62)) (Nat.le_refl _)); have hT10 := Box.new (w1.alloc (.cells #[.bool b, .slice An (ln WB X) cn, .slice Ad (ln WB Y) cd] 62)) 54 #[.int .u64 10]; rw [show (w1.alloc (.cells #[.bool b, .slice An (ln WB X) cn, .slice Ad (ln WB Y) cd] 62)).heap.size = w1.heap.size + 1 by simp] at hT10; clear hb hvn hvd)
    | (go_at_call 65; refine (CP.out _ _ hT10).mono ?_; rintro e w5 ⟨⟨q5, m5, c5, rfl, h5⟩, hb5⟩; have hB5 := (hB1.alloc hB1.size (.cells #[.int .u64 10] 54)).trans (hb5.mono (hB1.alloc hB1.size _).size); have hK5 := (hK.alloc (.cells #[.int .u64 10] 54)).below hb5 (hK.alloc _).lt; have H5 := Lib.hid h5; clear h5))
  have B15 : Below (w1.alloc (.cells #[.bool b, .slice An (ln WB X) cn, .slice Ad (ln WB Y) cd] 62)).heap.size (w1.alloc (.cells #[.bool b, .slice An (ln WB X) cn, .slice Ad (ln WB Y) cd] 62)) w5 := ((Below.refl _ _).alloc (Nat.le_refl _) (.cells #[.int .u64 10] 54)).trans (hb5.mono (by simp))
  have Hn5 := Lib.hid (Hn.out.below B15 (Nat.le_refl _))
  have Hd5 := Lib.hid (Hd.out.below B15 (Nat.le_refl _))
  clear B15 Hn Hd hK hT10
  go_region_held3 (fun w' => w'.cell? ⟨w1.heap.size, 0, none⟩ = some (.bool b) ∧ w'.cell? ⟨w1.heap.size, 1, none⟩ = some (.slice An (ln WB X) cn) ∧ w'.cell? ⟨w1.heap.size, 2, none⟩ = some (.slice Ad (ln WB Y) cd) ∧ Below w5.heap.size w5 w')
    ((refine hold3 hK5 ?_; first | exact (Below.refl _ w5).drew | (refine below_step (hold3_below (by assumption)) ?_; assumption)))
    (first
      | (go_at_call 76; refine (mulNats_any _ _ X P _ (Hn5.out.below (Below.refl w5.heap.size w5).drew (Nat.le_refl _)) (H5.out.below (Below.refl w5.heap.size w5).drew (Nat.le_refl _)) (by omega) (by omega)).mono ?_; rintro e w6 ⟨⟨v6, rfl, hv6⟩, hb6⟩; obtain ⟨A6, c6, rfl, _, _, _⟩ := RowF.open hv6; have K6 : Below w5.heap.size w5 w6 := below_of_drew hb6; have H6 := Lib.hid hv6; clear hv6)
      | (go_at_call 75; refine (divNats_any _ _ (X * P) Y _ H6.out (Hd5.out.below K6 (Nat.le_refl _)) pY (by omega)).mono ?_; rintro e w7 ⟨⟨v7, v8, rfl, hv7, hv8⟩, hb7⟩; rw [HQ.out] at hv7; have K7 := K6.trans (hb7.mono K6.size); have H7 := Lib.hid hv7; clear hv7 hv8))
  have hB7 := hB5.trans (K7.mono hB5.size)
  have hK7 := hK5.below K7 hK5.lt
  go_upto_region 7 with (go_at_call 77; refine (CD.out _ _ hB7 H7.out).mono ?_; rintro e w8 ⟨rfl, hb8⟩; have hB8 := hB7.trans (hb8.mono hB7.size); have hK8 := hK7.below hb8 hK7.lt; obtain ⟨k0, k1, k2, _, _, _⟩ := hK8.three)
  have hmax : max (0 : Int) ((n : Int) + 1 - (D.size : Int)) = ((c : Nat) : Int) := by omega
  obtain ⟨Z, hZ⟩ : ∃ Z : ByteArray, Z = ⟨(List.replicate c 48).toArray⟩ := ⟨_, rfl⟩
  have CZ : Hid (∀ W, _) := Lib.hid fun W => zeros_any c (by omega) W
  rw [← hZ] at CZ
  have hZl : Z.toList = List.replicate c 48 := by rw [hZ]; exact toList_mk _
  have hZs : Z.size = c := by rw [← len_list, hZl, List.length_replicate]
  have hNl : (Z ++ D).toList = decL (X / Y) ++ padL n Q := by rw [toList_app, hZl, HDT.out, HCQ.out]; exact HSP.out
  obtain ⟨L, hL⟩ : ∃ L, L = (decL (X / Y)).length := ⟨_, rfl⟩
  have hNs : (Z ++ D).size = L + n := by rw [← len_list, hNl, List.length_append, padL_length, hL]
  have hL1 : L ≤ 400 := by
    have h1 := len_list (Z ++ D)
    rw [toList_app, List.length_append, len_list, len_list, hZs] at h1
    omega
  have HNL := Lib.hid hNl
  have HNS := Lib.hid hNs
  have HL := Lib.hid hL
  have g1 : ¬ 9223372036854775807 < Z.size + D.size := by omega
  clear hcD hZ hZl hZs hNl hNs hL HQ H7 H5 Hn5 Hd5 CP CD CF lXP lP lX lY pY hb5 hB5 K7 hK7 hB7 hb7 hb8 hA r0 r1 r2 hd1 hd2
  go_upto_region 8 with (go_at_call 78; refine (CZ.out _).mono ?_; rintro e w9 ⟨rfl, hb9⟩; have hB9 := hB8.trans (hb9.mono hB8.size); have hK9 := hK8.below hb9 hK8.lt; clear k0 k1 k2; obtain ⟨k0, k1, k2, _, _, _⟩ := hK9.three)
  obtain ⟨N, hN⟩ : ∃ N, N = Z ++ D := ⟨_, rfl⟩
  rw [← hN] at HNL HNS ⊢
  clear hN g1 CZ
  have hNs := HNS.out
  have hpt : (N.size : Int) - (n : Int) = ((L : Nat) : Int) := by omega
  have hw1 : IntKind.i64.wrap ((N.size : Int) - (n : Int)) = ((L : Nat) : Int) := by rw [hpt]; exact IntWalk.i64_in _ (by omega)
  go_upto_region 10 with fail
  obtain ⟨B0, hB0⟩ : ∃ B0, B0 = N.extract 0 L := ⟨_, rfl⟩
  have hBl : B0.toList = decL (X / Y) := by rw [hB0, take_text, HNL.out, HL.out]; exact List.take_left
  have hBs : B0.size = L := by rw [← len_list, hBl, HL.out]
  have HBL := Lib.hid hBl
  rw [← hB0]
  clear hB0 hBl hpt hw1
  obtain ⟨k0, k1, k2, _, _, _⟩ := hK9.three
  have g1 : ¬ 9223372036854775807 < 1 + B0.size := by omega
  have g2 : ¬ 9223372036854775807 < 1 + n := by omega
  have g3 : ¬ 9223372036854775807 < B0.size + (1 + n) := by omega
  have g4 : ¬ 9223372036854775807 < 1 + (B0.size + (1 + n)) := by omega
  by_cases hk : 0 < n
  · go_upto_region 12 with fail
    obtain ⟨T0, hT0⟩ : ∃ T0, T0 = B0 ++ (⟨#[46]⟩ ++ N.extract L (L + n)) := ⟨_, rfl⟩
    have hTl : T0.toList = decL (X / Y) ++ 46 :: padL n Q := by
      have h46 : (⟨#[46]⟩ : ByteArray).toList = [46] := toList_mk [46]
      rw [hT0, toList_app, toList_app, HBL.out, h46, ← hNs, drop_text, HNL.out, HL.out, List.drop_left]
      rfl
    have hTs : T0.size = L + 1 + n := by
      rw [← len_list, hTl, List.length_append, List.length_cons, padL_length, HL.out]; omega
    have HT0 := Lib.hid hTl
    have HK := Lib.hid hk
    rw [← hT0]
    clear hT0 hTl hk hNs HNL HNS g1 g2 g3 g4
    have g5 : ¬ 9223372036854775807 < 1 + T0.size := by omega
    clear hTs
    cases b with
    | false =>
      go_wp2_with fail
      go_ret2
      refine ⟨?_, hB9⟩
      rw [HTT.out, HTXT.out, if_pos HK.out]
      show Ending.returned (.tuple #[.string T0, .bool true]) = _
      rw [of_list HT0.out]
      simp
    | true =>
      go_wp2_with fail
      go_ret2
      refine ⟨?_, hB9⟩
      rw [HTT.out, HTXT.out, if_pos HK.out]
      show Ending.returned (.tuple #[.string (⟨#[45]⟩ ++ T0), .bool true]) = _
      rw [of_list (show (⟨#[45]⟩ ++ T0 : ByteArray).toList = _ from (toList_app _ _).trans (congr (congrArg HAppend.hAppend (toList_mk [45])) HT0.out))]
      simp
  · have hT0 : B0.toList = decL (X / Y) ++ [] := by rw [HBL.out, List.append_nil]
    obtain ⟨T0, hTe⟩ : ∃ T0, T0 = B0 := ⟨_, rfl⟩
    rw [← hTe] at hT0 g1 ⊢
    have HT0 := Lib.hid hT0
    have HK := Lib.hid hk
    have hn0 : n = 0 := by omega
    clear hTe hT0 hk hNs HNL HNS g2 g3 g4 HBL hBs
    subst hn0
    cases b with
    | false =>
      go_wp2_with fail
      go_ret2
      refine ⟨?_, hB9⟩
      rw [HTT.out, HTXT.out, if_neg HK.out]
      show Ending.returned (.tuple #[.string T0, .bool true]) = _
      rw [of_list HT0.out]
      simp
    | true =>
      go_wp2_with fail
      go_ret2
      refine ⟨?_, hB9⟩
      rw [HTT.out, HTXT.out, if_neg HK.out]
      show Ending.returned (.tuple #[.string (⟨#[45]⟩ ++ T0), .bool true]) = _
      rw [of_list (show (⟨#[45]⟩ ++ T0 : ByteArray).toList = _ from (toList_app _ _).trans (congr (congrArg HAppend.hAppend (toList_mk [45])) HT0.out))]
      simp

/-- What DecimalOf answers. -/
def decRes (b : Bool) (x y : ByteArray) (n : Int) : Value :=
  if (validR b x y && decide (0 ≤ n ∧ n ≤ 50)) = true then .tuple #[.string ⟨(decTxt b (numOf x) (numOf y) n.toNat).toArray⟩, .bool true] else .tuple #[.string ⟨#[]⟩, .bool false]

theorem decRes_shape (b : Bool) (x y : ByteArray) (n : Int) : ∃ t c, decRes b x y n = .tuple #[.string t, .bool c] := by
  unfold decRes
  split
  · exact ⟨_, _, rfl⟩
  · exact ⟨_, _, rfl⟩

end Go.Proofs.YtmmonglcbkefmaaGreatDoor
/-
  The law on DecimalOf: the program answers as the model, whatever the Rat and the int.
-/
namespace Go.Proofs.YtmmonglcbkefmaaGreatDoor
open Go.RowKit Num

set_option maxRecDepth 100000 in
set_option maxHeartbeats 1600000 in
theorem specDec_no (b : Bool) (x y : ByteArray) (n : Int) (w : World) (hx : x.size ≤ 9223372036854775807) (hy : y.size ≤ 9223372036854775807) (h : validR b x y = false ∨ ¬ (0 ≤ n ∧ n ≤ 50)) :
    Calls Tryz.prog 30 #[.agg #[.bool b, .string x, .string y], .int .i64 n] w fun e w' => e = .returned (.tuple #[.string ⟨#[]⟩, .bool false]) ∧ Below w.heap.size w w' := by
  have C1 : Hid (∀ W, _) := Lib.hid fun W => validS_any b x y W hx hy
  have CI : Hid (∀ W, _) := Lib.hid fun W => in_any n 0 50 W
  have hA := Box.new w 24 #[.bool b, .string x, .string y]
  have hB := (Below.refl w.heap.size w).alloc (Nat.le_refl _) (.cells #[.bool b, .string x, .string y] 24)
  obtain ⟨r0, r1, r2, _, _, _⟩ := hA.three
  cases hv : validR b x y with
  | false =>
    rw [hv] at C1
    clear h hv hx hy
    go_enter Tryz.func30, Tryz.ntmps30
    go_wp2_with (go_at_call 45; refine (C1.out _).mono ?_; rintro e w1 ⟨rfl, hb⟩; replace hB := hB.trans (hb.mono hB.size); clear hb)
    go_ret2
    exact ⟨rfl, hB⟩
  | true =>
    rw [hv] at C1
    have hn : ¬ (0 ≤ n ∧ n ≤ 50) := by
      rcases h with h | h
      · rw [hv] at h; cases h
      · exact h
    rw [decide_eq_false hn] at CI
    clear h hv hx hy hn
    go_enter Tryz.func30, Tryz.ntmps30
    go_wp2_with (first
      | (go_at_call 45; refine (C1.out _).mono ?_; rintro e w1 ⟨rfl, hb⟩; replace hB := hB.trans (hb.mono hB.size); clear hb)
      | (go_at_call 66; refine (CI.out _).mono ?_; rintro e w2 ⟨rfl, rfl⟩))
    go_ret2
    exact ⟨rfl, hB⟩

theorem specDec_any (b : Bool) (x y : ByteArray) (n : Int) (w : World) (hx : x.size ≤ 9223372036854775807) (hy : y.size ≤ 9223372036854775807) :
    Calls Tryz.prog 30 #[.agg #[.bool b, .string x, .string y], .int .i64 n] w fun e w' => e = .returned (decRes b x y n) ∧ Below w.heap.size w w' := by
  unfold decRes
  by_cases h : (validR b x y && decide (0 ≤ n ∧ n ≤ 50)) = true
  · rw [if_pos h]
    rw [Bool.and_eq_true, decide_eq_true_eq] at h
    obtain ⟨k, rfl⟩ : ∃ k : Nat, n = (k : Nat) := ⟨n.toNat, by omega⟩
    rw [Int.toNat_natCast]
    exact specDec_yes b x y k w (by omega) hx hy h.1
  · rw [if_neg h]
    refine specDec_no b x y n w hx hy ?_
    by_cases hn : 0 ≤ n ∧ n ≤ 50
    · left
      rw [decide_eq_true hn, Bool.and_true] at h
      simpa using h
    · exact .inr hn

set_option maxRecDepth 100000 in
set_option maxHeartbeats 3200000 in
theorem implDec_no (b : Bool) (x y : ByteArray) (n : Int) (w : World) (hx : x.size ≤ 9223372036854775807) (hy : y.size ≤ 9223372036854775807) (hU : UnitB w) (hT : Tab64 w) (h : validR b x y = false ∨ n < 0 ∨ 50 < n) :
    Calls Tryz.prog 29 #[.agg #[.bool b, .string x, .string y], .int .i64 n] w fun e w' => e = .returned (.tuple #[.string ⟨#[]⟩, .bool false]) ∧ Below w.heap.size w w' := by
  have CF : Hid (∀ W, Below w.heap.size w W → _) := Lib.hid fun W hW => fracOf_all b x y W hx hy (hU.below hW) (hT.below hW)
  have hA := Box.new w 24 #[.bool b, .string x, .string y]
  have hB := (Below.refl w.heap.size w).alloc (Nat.le_refl _) (.cells #[.bool b, .string x, .string y] 24)
  obtain ⟨r0, r1, r2, _, _, _⟩ := hA.three
  clear hU hT hx hy
  cases hv : validR b x y with
  | false =>
    rw [hv] at CF
    clear h hv
    go_enter Tryz.func29, Tryz.ntmps29
    go_wp2_with (go_at_call 58; refine (CF.out _ hB).mono ?_; rintro e w1 ⟨hh, hb⟩; rw [if_neg (by decide)] at hh; unfold noFrac at hh; obtain rfl := hh; replace hB := (hB.trans (hb.mono hB.size)).alloc (hB.trans (hb.mono hB.size)).size (.cells #[.bool false, .slice none 0 0, .slice none 0 0] 62); clear hb)
    go_ret2
    exact ⟨rfl, hB⟩
  | true =>
    rw [hv] at CF
    have hn : n < 0 ∨ (0 ≤ n ∧ 50 < n) := by
      rcases h with h | h | h
      · rw [hv] at h; cases h
      · exact .inl h
      · exact .inr ⟨by omega, h⟩
    clear h hv
    rcases hn with hn | ⟨hn0, hn⟩
    · have hd : decide (n < 0) = true := decide_eq_true hn
      go_enter Tryz.func29, Tryz.ntmps29
      go_wp2_with (go_at_call 58; refine (CF.out _ hB).mono ?_; rintro e w1 ⟨hh, hb⟩; rw [if_pos rfl] at hh; obtain ⟨vn, vd, rfl, hvn, hvd⟩ := hh; obtain ⟨An, cn, rfl, _, _, _⟩ := RowF.open hvn; obtain ⟨Ad, cd, rfl, _, _, _⟩ := RowF.open hvd; replace hB := (hB.trans (hb.mono hB.size)).alloc (hB.trans (hb.mono hB.size)).size (.cells #[.bool b, .slice An (ln WB (numOf x)) cn, .slice Ad (ln WB (numOf y)) cd] 62); clear hb hvn hvd)
      go_ret2
      exact ⟨rfl, hB⟩
    · have hd : decide (n < 0) = false := decide_eq_false (by omega)
      have hd2 : decide (50 < n) = true := decide_eq_true hn
      go_enter Tryz.func29, Tryz.ntmps29
      go_wp2_with (go_at_call 58; refine (CF.out _ hB).mono ?_; rintro e w1 ⟨hh, hb⟩; rw [if_pos rfl] at hh; obtain ⟨vn, vd, rfl, hvn, hvd⟩ := hh; obtain ⟨An, cn, rfl, _, _, _⟩ := RowF.open hvn; obtain ⟨Ad, cd, rfl, _, _, _⟩ := RowF.open hvd; replace hB := (hB.trans (hb.mono hB.size)).alloc (hB.trans (hb.mono hB.size)).size (.cells #[.bool b, .slice An (ln WB (numOf x)) cn, .slice Ad (ln WB (numOf y)) cd] 62); clear hb hvn hvd)
      go_ret2
      exact ⟨rfl, hB⟩

theorem implDec_any (b : Bool) (x y : ByteArray) (n : Int) (w : World) (hx : x.size ≤ 9223372036854775807) (hy : y.size ≤ 9223372036854775807) (hU : UnitB w) (hT : Tab64 w) (hP : TabP w) :
    Calls Tryz.prog 29 #[.agg #[.bool b, .string x, .string y], .int .i64 n] w fun e w' => e = .returned (decRes b x y n) ∧ Below w.heap.size w w' := by
  unfold decRes
  by_cases h : (validR b x y && decide (0 ≤ n ∧ n ≤ 50)) = true
  · rw [if_pos h]
    rw [Bool.and_eq_true, decide_eq_true_eq] at h
    obtain ⟨k, rfl⟩ : ∃ k : Nat, n = (k : Nat) := ⟨n.toNat, by omega⟩
    rw [Int.toNat_natCast]
    exact implDec_yes b x y k w (by omega) hx hy hU hT hP h.1
  · rw [if_neg h]
    refine implDec_no b x y n w hx hy hU hT ?_
    by_cases hn : 0 ≤ n ∧ n ≤ 50
    · left
      rw [decide_eq_true hn, Bool.and_true] at h
      simpa using h
    · right; omega

end Go.Proofs.YtmmonglcbkefmaaGreatDoor
