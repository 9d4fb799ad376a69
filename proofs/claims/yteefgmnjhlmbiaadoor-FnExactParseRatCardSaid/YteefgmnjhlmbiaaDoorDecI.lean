/-
  The program's DecimalOf.
-/
import Derived.Test.YteefgmnjhlmbiaaDoorDecM
namespace Go.Proofs.YteefgmnjhlmbiaaDoor
open Go.RowKit Num

theorem take_text (s : ByteArray) (k : Nat) : (s.extract 0 k).toList = s.toList.take k := by
  rw [Lib.toList_data, Lib.toList_data, ByteArray.data_extract, Array.toList_extract]
  simp [List.extract]

theorem drop_text (s : ByteArray) (k : Nat) : (s.extract k s.size).toList = s.toList.drop k := by
  rw [Lib.toList_data, Lib.toList_data, ByteArray.data_extract, Array.toList_extract]
  have h : s.size = s.data.toList.length := rfl
  simp only [List.extract]
  exact List.take_of_length_le (by rw [List.length_drop, h]; exact Nat.le_refl _)

theorem nums_word {w : World} {g x : Nat} (hx : 0 < x) (hw : x < 18446744073709551616) (h : Box w g 94 #[.int .u64 (x : Nat)]) : Nums 94 .u64 WB w (.slice (some ⟨g, 0, none⟩) 1 1) x := by
  have hd : digs WB x = [x] := digs_small WB x WB_two hx (by unfold WB; omega)
  have hl : ln WB x = 1 := by rw [ln, hd]; rfl
  refine .inr ⟨g, 0, 1, by rw [hl], by rw [hl]; omega, by unfold maxLen; omega, ⟨_, h⟩, fun j hj => ?_⟩
  rw [hl] at hj
  obtain rfl : j = 0 := by omega
  rw [h.cell, hd]; rfl

theorem ln_ten (n : Nat) (hn : n ≤ 50) : ln WB (10 ^ n) ≤ 7 := ln_le_of_lt WB _ 7 WB_two (Nat.lt_of_le_of_lt (Nat.pow_le_pow_right (by omega) hn) (by unfold WB; decide))

theorem quot_small (X Y n : Nat) (hX : X < 10 ^ 120) (hn : n ≤ 50) : X * 10 ^ n / Y < 10000000000000000000 ^ 22 := by
  have h1 : X * 10 ^ n ≤ 10 ^ 120 * 10 ^ 50 := Nat.mul_le_mul (Nat.le_of_lt hX) (Nat.pow_le_pow_right (by omega) hn)
  have h2 : (10 : Nat) ^ 120 * 10 ^ 50 < 10000000000000000000 ^ 22 := by decide
  exact Nat.lt_of_le_of_lt (Nat.div_le_self _ _) (Nat.lt_of_le_of_lt h1 h2)

theorem whole_part (X Y n : Nat) : X * 10 ^ n / Y / 10 ^ n = X / Y := by
  rw [Nat.div_div_eq_div_mul, Nat.mul_div_mul_right _ _ (Nat.pow_pos (by omega))]

theorem scale_any (n P g : Nat) (hP : P = 10 ^ n) (hn : n ≤ 50) (w : World) (h : Box w g 94 #[.int .u64 10]) :
    Calls Tryd.prog 62 #[.slice (some ⟨g, 0, none⟩) 1 1, .int .i64 (n : Nat)] w fun e w' => (∃ q m c, e = .returned (.tuple #[.slice q m c, .bool true]) ∧ Nums 94 .u64 WB w' (.slice q m c) P) ∧ Below w.heap.size w w' := by
  have h10 : ln WB 10 ≤ 7 := ln_le_of_lt WB 10 7 WB_two (by unfold WB; decide)
  refine (powW_any _ 10 n w (nums_word (x := 10) (by omega) (by omega) h) (by omega) h10).mono ?_
  rintro e w' ⟨⟨v, rfl, ⟨q, m, c, rfl⟩, h5⟩, hb⟩
  have hl := ln_ten n hn
  refine ⟨⟨q, m, c, ?_, ?_⟩, hb⟩
  · rw [decide_eq_true hl]
  · rw [hP]; exact h5 hl

set_option maxRecDepth 100000 in
set_option maxHeartbeats 3200000 in
theorem implDec_yes (b : Bool) (x y : ByteArray) (n : Nat) (w : World) (hn : n ≤ 50) (hx : x.size ≤ 9223372036854775807) (hy : y.size ≤ 9223372036854775807) (hU : UnitB w) (hT : Tab64 w) (hP : TabP w) (hv : validR b x y = true) :
    Calls Tryd.prog 38 #[.agg #[.bool b, .string x, .string y], .int .i64 (n : Nat)] w fun e w' => e = .returned (.tuple #[.string ⟨(decTxt b (numOf x) (numOf y) n).toArray⟩, .bool true]) ∧ Below w.heap.size w w' := by
  have CF : Hid (∀ W, Below w.heap.size w W → _) := Lib.hid fun W hW => fracOf_all b x y W hx hy (hU.below hW) (hT.below hW)
  rw [hv] at CF
  obtain ⟨m1, m2, m3, _⟩ := validR_num hv
  have lX := ln_capS m1
  have lY := ln_capS m2
  have hXl := numOf_lt m1
  obtain ⟨X, hX⟩ : ∃ X, X = numOf x := ⟨_, rfl⟩
  obtain ⟨Y, hY⟩ : ∃ Y, Y = numOf y := ⟨_, rfl⟩
  rw [← hX] at CF lX hXl ⊢
  rw [← hY] at CF lY m3 ⊢
  have pY : 0 < Y := by omega
  have lT := ln_ten n hn
  have hq := quot_small X Y n hXl hn
  have hwp := whole_part X Y n
  obtain ⟨Q, hQ⟩ : ∃ Q, Q = X * 10 ^ n / Y := ⟨_, rfl⟩
  rw [← hQ] at hq hwp
  have hsp := pad_split n Q
  rw [hwp] at hsp
  have CD : Hid (∀ (v : Value) (W : World), Below w.heap.size w W → Nums 94 .u64 WB W v Q → _) := Lib.hid fun v W hW g => decOf_all Q hq v W (staysP.below _ _ hP hW) g
  have hDl : (decL Q).length ≤ 171 := decL_le 171 Q (by omega) (by
    rw [hQ]
    have h1 : X * 10 ^ n ≤ 10 ^ 120 * 10 ^ 50 := Nat.mul_le_mul (Nat.le_of_lt hXl) (Nat.pow_le_pow_right (by omega) hn)
    have h2 : (10 : Nat) ^ 120 * 10 ^ 50 < 10 ^ 171 := by decide
    exact Nat.lt_of_le_of_lt (Nat.div_le_self _ _) (Nat.lt_of_le_of_lt h1 h2))
  obtain ⟨P, hPP⟩ : ∃ P, P = 10 ^ n := ⟨_, rfl⟩
  have HQ := Lib.hid (show X * P / Y = Q by rw [hPP, hQ])
  have CP : Hid (∀ g W, _) := Lib.hid fun g W => scale_any n P g hPP hn W
  have lP : ln WB P ≤ 7 := by rw [hPP]; exact lT
  have lXP : ln WB (X * P) ≤ 14 := Nat.le_trans (ln_mul WB _ _ WB_two) (by omega)
  have HTXT := Lib.hid (show decTxt b X Y n = (if b = true then [45] else []) ++ decL (X / Y) ++ (if 0 < n then 46 :: padL n Q else []) by rw [hQ]; rfl)
  have hbody : ∃ t, t = decTxt b X Y n := ⟨_, rfl⟩
  obtain ⟨t, ht⟩ := hbody
  rw [← ht]
  have HTT := Lib.hid ht
  have hDs : (dec Q).size = (decL Q).length := rfl
  have hDt := dec_toList Q
  obtain ⟨D, hD⟩ : ∃ D, D = dec Q := ⟨_, rfl⟩
  rw [← hD] at CD hDs hDt
  have HSP := Lib.hid hsp
  have HDT := Lib.hid hDt
  obtain ⟨c, hc⟩ : ∃ c, c = n + 1 - (decL Q).length := ⟨_, rfl⟩
  rw [← hDs] at hDl
  have hcD : c = n + 1 - D.size := by rw [hc, hDs]
  have HCQ := Lib.hid hc
  clear hX hY hU hT hP hv m1 m2 hx hy hq hwp hQ hPP hsp hXl lT ht hD hDs hDt hc
  have hA := Box.new w 26 #[.bool b, .string x, .string y]
  have hB := (Below.refl w.heap.size w).alloc (Nat.le_refl _) (.cells #[.bool b, .string x, .string y] 26)
  obtain ⟨r0, r1, r2, _, _, _⟩ := hA.three
  have hd1 : decide ((n : Int) < 0) = false := decide_eq_false (by omega)
  have hd2 : decide ((50 : Int) < (n : Int)) = false := decide_eq_false (by omega)
  go_enter Tryd.func38, Tryd.ntmps38
  go_upto_region 5 with (first
    | (go_at_call 40; refine (CF.out _ hB).mono ?_; rintro e w1 ⟨hh, hb⟩; rw [if_pos rfl] at hh; obtain ⟨vn, vd, rfl, hvn, hvd⟩ := hh; obtain ⟨An, cn, rfl, _, _, _⟩ := RowF.open hvn; obtain ⟨Ad, cd, rfl, _, _, _⟩ := RowF.open hvd; have hB1 := (hB.trans (hb.mono hB.size)).alloc (hB.trans (hb.mono hB.size)).size (.cells #[.bool b, .slice An (ln WB X) cn, .slice Ad (ln WB Y) cd] 47); have hK := Box.new w1 47 #[.bool b, .slice An (ln WB X) cn, .slice Ad (ln WB Y) cd]; have Hn := Lib.hid (hvn.below ((Below.refl w1.heap.size w1).alloc (Nat.le_refl _) (.cells #[.bool b, .slice An (ln WB X) cn, .slice Ad (ln WB Y) cd] 47)) (Nat.le_refl _)); have Hd := Lib.hid (hvd.below ((Below.refl w1.heap.size w1).alloc (Nat.le_refl _) (.cells #[.bool b, .slice An (ln WB X) cn, .slice Ad (ln WB Y) cd] 47)) (Nat.le_refl _)); have hT10 := Box.new (w1.alloc (.cells #[.bool b, .slice An (ln WB X) cn, .slice Ad (ln WB Y) cd] 47)) 94 #[.int .u64 10]; rw [show (w1.alloc (.cells #[.bool b, .slice An (ln WB X) cn, .slice Ad (ln WB Y) cd] 47)).heap.size = w1.heap.size + 1 by simp] at hT10; clear hb hvn hvd)
    | (go_at_call 62; refine (CP.out _ _ hT10).mono ?_; rintro e w5 ⟨⟨q5, m5, c5, rfl, h5⟩, hb5⟩; have hB5 := (hB1.alloc hB1.size (.cells #[.int .u64 10] 94)).trans (hb5.mono (hB1.alloc hB1.size _).size); have hK5 := (hK.alloc (.cells #[.int .u64 10] 94)).below hb5 (hK.alloc _).lt; have H5 := Lib.hid h5; clear h5))
  have B15 : Below (w1.alloc (.cells #[.bool b, .slice An (ln WB X) cn, .slice Ad (ln WB Y) cd] 47)).heap.size (w1.alloc (.cells #[.bool b, .slice An (ln WB X) cn, .slice Ad (ln WB Y) cd] 47)) w5 := ((Below.refl _ _).alloc (Nat.le_refl _) (.cells #[.int .u64 10] 94)).trans (hb5.mono (by simp))
  have Hn5 := Lib.hid (Hn.out.below B15 (Nat.le_refl _))
  have Hd5 := Lib.hid (Hd.out.below B15 (Nat.le_refl _))
  clear B15 Hn Hd hK hT10
  go_region_held3 (fun w' => w'.cell? ⟨w1.heap.size, 0, none⟩ = some (.bool b) ∧ w'.cell? ⟨w1.heap.size, 1, none⟩ = some (.slice An (ln WB X) cn) ∧ w'.cell? ⟨w1.heap.size, 2, none⟩ = some (.slice Ad (ln WB Y) cd) ∧ Below w5.heap.size w5 w')
    ((refine hold3 hK5 ?_; first | exact (Below.refl _ w5).drew | (refine below_step (hold3_below (by assumption)) ?_; assumption)))
    (first
      | (go_at_call 74; refine (mulNats_any _ _ X P _ (Hn5.out.below (Below.refl w5.heap.size w5).drew (Nat.le_refl _)) (H5.out.below (Below.refl w5.heap.size w5).drew (Nat.le_refl _)) (by omega) (by omega)).mono ?_; rintro e w6 ⟨⟨v6, rfl, hv6⟩, hb6⟩; obtain ⟨A6, c6, rfl, _, _, _⟩ := RowF.open hv6; have K6 : Below w5.heap.size w5 w6 := below_of_drew hb6; have H6 := Lib.hid hv6; clear hv6)
      | (go_at_call 73; refine (divNats_any _ _ (X * P) Y _ H6.out (Hd5.out.below K6 (Nat.le_refl _)) pY (by omega)).mono ?_; rintro e w7 ⟨⟨v7, v8, rfl, hv7, hv8⟩, hb7⟩; rw [HQ.out] at hv7; have K7 := K6.trans (hb7.mono K6.size); have H7 := Lib.hid hv7; clear hv7 hv8))
  have hB7 := hB5.trans (K7.mono hB5.size)
  have hK7 := hK5.below K7 hK5.lt
  go_upto_region 7 with (go_at_call 75; refine (CD.out _ _ hB7 H7.out).mono ?_; rintro e w8 ⟨rfl, hb8⟩; have hB8 := hB7.trans (hb8.mono hB7.size); have hK8 := hK7.below hb8 hK7.lt; obtain ⟨k0, k1, k2, _, _, _⟩ := hK8.three)
  have hmax : max (0 : Int) ((n : Int) + 1 - (D.size : Int)) = ((c : Nat) : Int) := by omega
  obtain ⟨Z, hZ⟩ : ∃ Z : ByteArray, Z = ⟨(List.replicate c 48).toArray⟩ := ⟨_, rfl⟩
  have CZ : Hid (∀ W, _) := Lib.hid fun W => zeros_any c (by omega) W
  rw [← hZ] at CZ
  have hZl : Z.toList = List.replicate c 48 := by rw [hZ]; exact toList_mk _
  have hZs : Z.size = c := by rw [← len_list, hZl, List.length_replicate]
  have hNl : (Z ++ D).toList = decL (X / Y) ++ padL n Q := by rw [toList_app, hZl, HDT.out, HCQ.out]; exact HSP.out
  obtain ⟨L, hL⟩ : ∃ L, L = (decL (X / Y)).length := ⟨_, rfl⟩
  have hNs : (Z ++ D).size = L + n := by rw [← len_list, hNl, List.length_append, padL_length, hL]
  have hL1 : L ≤ 400 := by
    have h1 := len_list (Z ++ D)
    rw [toList_app, List.length_append, len_list, len_list, hZs] at h1
    omega
  have HNL := Lib.hid hNl
  have HNS := Lib.hid hNs
  have HL := Lib.hid hL
  have g1 : ¬ 9223372036854775807 < Z.size + D.size := by omega
  clear hcD hZ hZl hZs hNl hNs hL HQ H7 H5 Hn5 Hd5 CP CD CF lXP lP lX lY pY hb5 hB5 K7 hK7 hB7 hb7 hb8 hA r0 r1 r2 hd1 hd2
  go_upto_region 8 with (go_at_call 76; refine (CZ.out _).mono ?_; rintro e w9 ⟨rfl, hb9⟩; have hB9 := hB8.trans (hb9.mono hB8.size); have hK9 := hK8.below hb9 hK8.lt; clear k0 k1 k2; obtain ⟨k0, k1, k2, _, _, _⟩ := hK9.three)
  obtain ⟨N, hN⟩ : ∃ N, N = Z ++ D := ⟨_, rfl⟩
  rw [← hN] at HNL HNS ⊢
  clear hN g1 CZ
  have hNs := HNS.out
  have hpt : (N.size : Int) - (n : Int) = ((L : Nat) : Int) := by omega
  have hw1 : IntKind.i64.wrap ((N.size : Int) - (n : Int)) = ((L : Nat) : Int) := by rw [hpt]; exact IntWalk.i64_in _ (by omega)
  go_upto_region 10 with fail
  obtain ⟨B0, hB0⟩ : ∃ B0, B0 = N.extract 0 L := ⟨_, rfl⟩
  have hBl : B0.toList = decL (X / Y) := by rw [hB0, take_text, HNL.out, HL.out]; exact List.take_left
  have hBs : B0.size = L := by rw [← len_list, hBl, HL.out]
  have HBL := Lib.hid hBl
  rw [← hB0]
  clear hB0 hBl hpt hw1
  obtain ⟨k0, k1, k2, _, _, _⟩ := hK9.three
  have g1 : ¬ 9223372036854775807 < 1 + B0.size := by omega
  have g2 : ¬ 9223372036854775807 < 1 + n := by omega
  have g3 : ¬ 9223372036854775807 < B0.size + (1 + n) := by omega
  have g4 : ¬ 9223372036854775807 < 1 + (B0.size + (1 + n)) := by omega
  by_cases hk : 0 < n
  · go_upto_region 12 with fail
    obtain ⟨T0, hT0⟩ : ∃ T0, T0 = B0 ++ (⟨#[46]⟩ ++ N.extract L (L + n)) := ⟨_, rfl⟩
    have hTl : T0.toList = decL (X / Y) ++ 46 :: padL n Q := by
      have h46 : (⟨#[46]⟩ : ByteArray).toList = [46] := toList_mk [46]
      rw [hT0, toList_app, toList_app, HBL.out, h46, ← hNs, drop_text, HNL.out, HL.out, List.drop_left]
      rfl
    have hTs : T0.size = L + 1 + n := by
      rw [← len_list, hTl, List.length_append, List.length_cons, padL_length, HL.out]; omega
    have HT0 := Lib.hid hTl
    have HK := Lib.hid hk
    rw [← hT0]
    clear hT0 hTl hk hNs HNL HNS g1 g2 g3 g4
    have g5 : ¬ 9223372036854775807 < 1 + T0.size := by omega
    clear hTs
    cases b with
    | false =>
      go_wp2_with fail
      go_ret2
      refine ⟨?_, hB9⟩
      rw [HTT.out, HTXT.out, if_pos HK.out]
      show Ending.returned (.tuple #[.string T0, .bool true]) = _
      rw [of_list HT0.out]
      simp
    | true =>
      go_wp2_with fail
      go_ret2
      refine ⟨?_, hB9⟩
      rw [HTT.out, HTXT.out, if_pos HK.out]
      show Ending.returned (.tuple #[.string (⟨#[45]⟩ ++ T0), .bool true]) = _
      rw [of_list (show (⟨#[45]⟩ ++ T0 : ByteArray).toList = _ from (toList_app _ _).trans (congr (congrArg HAppend.hAppend (toList_mk [45])) HT0.out))]
      simp
  · have hT0 : B0.toList = decL (X / Y) ++ [] := by rw [HBL.out, List.append_nil]
    obtain ⟨T0, hTe⟩ : ∃ T0, T0 = B0 := ⟨_, rfl⟩
    rw [← hTe] at hT0 g1 ⊢
    have HT0 := Lib.hid hT0
    have HK := Lib.hid hk
    have hn0 : n = 0 := by omega
    clear hTe hT0 hk hNs HNL HNS g2 g3 g4 HBL hBs
    subst hn0
    cases b with
    | false =>
      go_wp2_with fail
      go_ret2
      refine ⟨?_, hB9⟩
      rw [HTT.out, HTXT.out, if_neg HK.out]
      show Ending.returned (.tuple #[.string T0, .bool true]) = _
      rw [of_list HT0.out]
      simp
    | true =>
      go_wp2_with fail
      go_ret2
      refine ⟨?_, hB9⟩
      rw [HTT.out, HTXT.out, if_neg HK.out]
      show Ending.returned (.tuple #[.string (⟨#[45]⟩ ++ T0), .bool true]) = _
      rw [of_list (show (⟨#[45]⟩ ++ T0 : ByteArray).toList = _ from (toList_app _ _).trans (congr (congrArg HAppend.hAppend (toList_mk [45])) HT0.out))]
      simp

/-- What DecimalOf answers. -/
def decRes (b : Bool) (x y : ByteArray) (n : Int) : Value :=
  if (validR b x y && decide (0 ≤ n ∧ n ≤ 50)) = true then .tuple #[.string ⟨(decTxt b (numOf x) (numOf y) n.toNat).toArray⟩, .bool true] else .tuple #[.string ⟨#[]⟩, .bool false]

theorem decRes_shape (b : Bool) (x y : ByteArray) (n : Int) : ∃ t c, decRes b x y n = .tuple #[.string t, .bool c] := by
  unfold decRes
  split
  · exact ⟨_, _, rfl⟩
  · exact ⟨_, _, rfl⟩

end Go.Proofs.YteefgmnjhlmbiaaDoor
