/-
  The law on the texts, the powers and the decimals of Rats. (Written by gen_textlaw.py.)
-/
import Derived.Test.YtmmonglcbkefmaaGreatDoorParseQ
import Derived.Test.YtmmonglcbkefmaaGreatDoorDrawC
import Derived.Test.YtmmonglcbkefmaaGreatDoorDraws
import Derived.Test.YtmmonglcbkefmaaGreatDoorBoxes
import Derived.Test.YtmmonglcbkefmaaGreatDoorMulM
import Derived.Test.YtmmonglcbkefmaaGreatDoorRatOfA
import Derived.Test.YtmmonglcbkefmaaGreatDoorSumA
import Derived.Test.YtmmonglcbkefmaaGreatDoorPowA
import Derived.Test.YtmmonglcbkefmaaGreatDoorDecA
namespace Go.Proofs.YtmmonglcbkefmaaGreatDoor
open Go.RowKit Num

/-- What FormatRat answers. -/
def fmtRes (b : Bool) (x y : ByteArray) : Value := if validR b x y = true then .tuple #[.string (fmtS b x y), .bool true] else .tuple #[.string ⟨#[]⟩, .bool false]
theorem fmtRes_shape (b : Bool) (x y : ByteArray) : ∃ t c, fmtRes b x y = .tuple #[.string t, .bool c] := by
  unfold fmtRes
  split
  · exact ⟨_, _, rfl⟩
  · exact ⟨_, _, rfl⟩
theorem fmtRes_yes {b : Bool} {x y t : ByteArray} (h : fmtRes b x y = .tuple #[.string t, .bool true]) : validR b x y = true ∧ t = fmtS b x y := by
  unfold fmtRes at h
  split at h
  · rename_i hv
    simp at h
    exact ⟨hv, h.symm⟩
  · simp at h
theorem noRat_tiny {b : Bool} {x y : ByteArray} {c : Bool} (h : noRat = .tuple #[.agg #[.bool b, .string x, .string y], .bool c]) : x.size ≤ 120 ∧ y.size ≤ 120 := by
  simp [noRat] at h
  obtain ⟨⟨_, rfl, rfl⟩, _⟩ := h
  exact ⟨Nat.zero_le _, Nat.zero_le _⟩
theorem powRes_short {b0 : Bool} {x0 y0 : ByteArray} {n : Int} {b : Bool} {x y : ByteArray} {c : Bool} (h : powRes b0 x0 y0 n = .tuple #[.agg #[.bool b, .string x, .string y], .bool c]) : x.size ≤ 120 ∧ y.size ≤ 120 := by
  unfold powRes at h
  split at h
  · obtain ⟨b', x', y', c', e, h1, h2⟩ := ratRes_small (b0 && decide (n.toNat % 2 = 1)) (numOf x0 ^ n.toNat) (numOf y0 ^ n.toNat)
    rw [e] at h
    simp at h
    obtain ⟨⟨_, rfl, rfl⟩, _⟩ := h
    exact ⟨h1, h2⟩
  · exact noRat_tiny h
theorem decRes_long {b : Bool} {x y : ByteArray} {n : Int} {t : ByteArray} {c : Bool} (h : decRes b x y n = .tuple #[.string t, .bool c]) : t.size ≤ 1000 := by
  unfold decRes at h
  split at h
  · rename_i hv
    rw [Bool.and_eq_true, decide_eq_true_eq] at hv
    simp at h
    obtain ⟨rfl, _⟩ := h
    obtain ⟨nx, _, _, _⟩ := validR_num hv.1
    show (decTxt b (numOf x) (numOf y) n.toNat).length ≤ 1000
    have h1 : (decL (numOf x / numOf y)).length ≤ 120 := decL_le 120 _ (by omega) (Nat.lt_of_le_of_lt (Nat.div_le_self _ _) (numOf_lt nx))
    have h2 := padL_len n.toNat (numOf x * 10 ^ n.toNat / numOf y)
    unfold decTxt
    rw [List.length_append, List.length_append]
    cases b <;> (by_cases hk : 0 < n.toNat <;> simp [hk, h2] <;> omega)
  · simp at h
    obtain ⟨rfl, _⟩ := h
    exact Nat.zero_le _

set_option maxRecDepth 100000 in
set_option maxHeartbeats 4000000 in
theorem lawTexts_any (A1 : Option Addr) (n1 c1 : Nat) (A2 : Option Addr) (n2 c2 : Nat) (w : World) (mx : Int) (hn : n1 ≤ 9223372036854775807) (hA : BytesAt w A1 n1 w.heap.size) (hn2 : n2 ≤ 9223372036854775807) (hA2 : BytesAt w A2 n2 w.heap.size) (hX : TabsT mx w) :
    Calls Tryz.prog 4 #[.slice A1 n1 c1, .slice A2 n2 c2] w fun e w' => e = .returned (.bool true) ∧ Below w.heap.size w w' := by
  have CD : Hid (∀ (_ : Unit), _) := Lib.hid fun _ => drawPow_any A1 n1 c1 w hn hA
  have C1 : Hid (∀ W, Below w.heap.size w W → _) := Lib.hid fun W hW => drawParse_any A2 n2 c2 W hn2 (hA2.up hW)
  have C2 : Hid (∀ W, Below w.heap.size w W → _) := Lib.hid fun W hW => drawDec_any A2 n2 c2 W hn2 (hA2.up hW)
  have C3 : Hid (∀ W, Below w.heap.size w W → _) := Lib.hid fun W hW => drawSum_any A2 n2 c2 W hn2 (hA2.up hW)
  have C4 : Hid (∀ W, Below w.heap.size w W → _) := Lib.hid fun W hW => drawRatOf_any A1 n1 c1 W hn (hA.up hW)
  have HX := Lib.hid hX
  clear hA hA2 hX
  go_enter Tryz.func4, Tryz.ntmps4
  go_upto_region 4 with (go_at_call 20; refine (CD.out ()).mono ?_; rintro e w1 ⟨⟨b1, x1, y1, z1, rfl, k1, k2, k3, k4⟩, hb1⟩)
  · go_ret
    exact ⟨rfl, Below.refl _ w⟩
  as_aux_lemma =>
  have hz0 : Boxes w [] := fun p hp => by cases hp
  obtain ⟨hB', hL'⟩ := laid_new #[.bool b1, .string x1, .string y1] (Below.refl w.heap.size w) hz0 hb1
  clear hz0 hb1 CD
  have hX := HX.out
  obtain ⟨ft, fc, hF⟩ := fmtRes_shape b1 x1 y1
  have hF0 : fmtRes b1 x1 y1 = _ := hF
  unfold fmtRes at hF
  obtain ⟨pb, px, py, pc, hP⟩ := powRes_shape b1 x1 y1 z1
  have CF : Hid (∀ W, Below w.heap.size w W → _) := Lib.hid fun W hW => implFormat_any b1 x1 y1 W (by omega) (by omega) (hX.below hW).1 (hX.below hW).2.1
  have CF' : Hid (∀ (W : World), _) := Lib.hid fun W => specFormat_any b1 x1 y1 W (by omega) (by omega)
  have CP : Hid (∀ W, Below w.heap.size w W → _) := Lib.hid fun W hW => implPow_any b1 x1 y1 z1 W (by omega) (by omega) (hX.below hW).1 (hX.below hW).2.1 (hX.below hW).2.2.1
  have CP' : Hid (∀ (W : World), _) := Lib.hid fun W => specPow_any b1 x1 y1 z1 W (by omega) (by omega)
  rw [hF] at CF CF'
  rw [hP] at CP CP'
  have HF := Lib.hid hF0
  have HPw := Lib.hid hP
  clear hF hF0 hP hX
  obtain ⟨V', hV⟩ : ∃ V, V = w1.alloc (.cells #[.bool b1, .string x1, .string y1] 24) := ⟨_, rfl⟩
  rw [← hV] at hB' hL' ⊢
  clear hV
  generalize w1.heap.size = G5 at hL' ⊢
  clear w1
  obtain ⟨V, rfl⟩ : ∃ V, V = V' := ⟨_, rfl⟩
  have hB := hB'
  have hL := hL'
  clear hB' hL'
  obtain ⟨a0, a1, a2⟩ := hL.get 0 rfl
  go_upto_region 5 with (go_at_call 21; refine (CF.out _ hB).mono ?_; rintro e V' ⟨rfl, hb1⟩)
  replace hL := hL.below hb1
  replace hB := hB.trans (hb1.mono hB.size)
  clear hb1 a0 a1 a2 V
  obtain ⟨V, rfl⟩ : ∃ V, V = V' := ⟨_, rfl⟩
  obtain ⟨a0, a1, a2⟩ := hL.get 0 rfl
  go_upto_region 6 with (go_at_call 22; refine (CF'.out _).mono ?_; rintro e V' ⟨rfl, hb1⟩)
  replace hL := hL.below hb1
  replace hB := hB.trans (hb1.mono hB.size)
  clear hb1 a0 a1 a2 V
  obtain ⟨V, rfl⟩ : ∃ V, V = V' := ⟨_, rfl⟩
  as_aux_lemma =>
  obtain ⟨a0, a1, a2⟩ := hL.get 0 rfl
  go_upto_region 7 with (go_at_call 23; refine (CP.out _ hB).mono ?_; rintro e w1 ⟨rfl, hb1⟩; obtain ⟨hB', hL'⟩ := laid_new #[.bool pb, .string px, .string py] hB hL hb1)
  clear hB hL hb1 a0 a1 a2
  obtain ⟨V', hV⟩ : ∃ V, V = w1.alloc (.cells #[.bool pb, .string px, .string py] 24) := ⟨_, rfl⟩
  rw [← hV] at hB' hL' ⊢
  clear hV V
  generalize w1.heap.size = G11 at hL' ⊢
  clear w1
  obtain ⟨V, rfl⟩ : ∃ V, V = V' := ⟨_, rfl⟩
  have hB := hB'
  have hL := hL'
  clear hB' hL'
  obtain ⟨a0, a1, a2⟩ := hL.get 1 rfl
  go_upto_region 8 with (go_at_call 24; refine (CP'.out _).mono ?_; rintro e w1 ⟨rfl, hb1⟩; obtain ⟨hB', hL'⟩ := laid_new #[.bool pb, .string px, .string py] hB hL hb1)
  clear hB hL hb1 a0 a1 a2
  obtain ⟨V', hV⟩ : ∃ V, V = w1.alloc (.cells #[.bool pb, .string px, .string py] 24) := ⟨_, rfl⟩
  rw [← hV] at hB' hL' ⊢
  clear hV V
  generalize w1.heap.size = G13 at hL' ⊢
  clear w1
  obtain ⟨V, rfl⟩ : ∃ V, V = V' := ⟨_, rfl⟩
  have hB := hB'
  have hL := hL'
  clear hB' hL'
  clear CF CF' CP CP'
  as_aux_lemma =>
  go_upto_region 9 with (go_at_call 25; refine (C1.out _ hB).mono ?_; rintro e V' ⟨⟨t, rfl, k5⟩, hb1⟩)
  replace hL := hL.below hb1
  replace hB := hB.trans (hb1.mono hB.size)
  clear hb1 V
  obtain ⟨V, rfl⟩ : ∃ V, V = V' := ⟨_, rfl⟩
  obtain ⟨xb, xx, xy, xc, hPa⟩ := specRes_shape t (sgnOf t) (restOf t)
  have hX := HX.out
  have CT : Hid (∀ W, Below w.heap.size w W → _) := Lib.hid fun W hW => implParse_any t W mx (by omega) (hX.below hW).1 (hX.below hW).2.1 (hX.below hW).2.2.2.2
  have CT' : Hid (∀ (W : World), _) := Lib.hid fun W => specParse_any t W (by omega)
  rw [hPa] at CT CT'
  clear hPa hX C1
  go_upto_region 10 with (go_at_call 26; refine (CT.out _ hB).mono ?_; rintro e w1 ⟨rfl, hb1⟩; obtain ⟨hB', hL'⟩ := laid_new #[.bool xb, .string xx, .string xy] hB hL hb1)
  clear hB hL hb1
  obtain ⟨V', hV⟩ : ∃ V, V = w1.alloc (.cells #[.bool xb, .string xx, .string xy] 24) := ⟨_, rfl⟩
  rw [← hV] at hB' hL' ⊢
  clear hV V
  generalize w1.heap.size = G16 at hL' ⊢
  clear w1
  obtain ⟨V, rfl⟩ : ∃ V, V = V' := ⟨_, rfl⟩
  have hB := hB'
  have hL := hL'
  clear hB' hL'
  go_upto_region 11 with (go_at_call 27; refine (CT'.out _).mono ?_; rintro e w1 ⟨rfl, hb1⟩; obtain ⟨hB', hL'⟩ := laid_new #[.bool xb, .string xx, .string xy] hB hL hb1)
  clear hB hL hb1
  obtain ⟨V', hV⟩ : ∃ V, V = w1.alloc (.cells #[.bool xb, .string xx, .string xy] 24) := ⟨_, rfl⟩
  rw [← hV] at hB' hL' ⊢
  clear hV V
  generalize w1.heap.size = G18 at hL' ⊢
  clear w1
  obtain ⟨V, rfl⟩ : ∃ V, V = V' := ⟨_, rfl⟩
  have hB := hB'
  have hL := hL'
  clear hB' hL'
  clear CT CT'
  as_aux_lemma =>
  go_upto_region 12 with (go_at_call 28; refine (C2.out _ hB).mono ?_; rintro e w1 ⟨⟨b2, x2, y2, z2, rfl, k6, k7, k8, k9⟩, hb1⟩; obtain ⟨hB', hL'⟩ := laid_new #[.bool b2, .string x2, .string y2] hB hL hb1)
  clear hB hL hb1
  obtain ⟨V', hV⟩ : ∃ V, V = w1.alloc (.cells #[.bool b2, .string x2, .string y2] 24) := ⟨_, rfl⟩
  rw [← hV] at hB' hL' ⊢
  clear hV V
  generalize w1.heap.size = G20 at hL' ⊢
  clear w1
  obtain ⟨V, rfl⟩ : ∃ V, V = V' := ⟨_, rfl⟩
  have hB := hB'
  have hL := hL'
  clear hB' hL'
  obtain ⟨dt, dc, hD⟩ := decRes_shape b2 x2 y2 z2
  have hX := HX.out
  have CD : Hid (∀ W, Below w.heap.size w W → _) := Lib.hid fun W hW => implDec_any b2 x2 y2 z2 W (by omega) (by omega) (hX.below hW).1 (hX.below hW).2.1 (hX.below hW).2.2.1
  have CD' : Hid (∀ (W : World), _) := Lib.hid fun W => specDec_any b2 x2 y2 z2 W (by omega) (by omega)
  rw [hD] at CD CD'
  have HD := Lib.hid hD
  clear hD hX C2
  obtain ⟨a0, a1, a2⟩ := hL.get 0 rfl
  go_upto_region 13 with (go_at_call 29; refine (CD.out _ hB).mono ?_; rintro e V' ⟨rfl, hb1⟩)
  replace hL := hL.below hb1
  replace hB := hB.trans (hb1.mono hB.size)
  clear hb1 a0 a1 a2 V
  obtain ⟨V, rfl⟩ : ∃ V, V = V' := ⟨_, rfl⟩
  obtain ⟨a0, a1, a2⟩ := hL.get 0 rfl
  go_upto_region 14 with (go_at_call 30; refine (CD'.out _).mono ?_; rintro e V' ⟨rfl, hb1⟩)
  replace hL := hL.below hb1
  replace hB := hB.trans (hb1.mono hB.size)
  clear hb1 a0 a1 a2 V
  obtain ⟨V, rfl⟩ : ∃ V, V = V' := ⟨_, rfl⟩
  clear CD CD'
  as_aux_lemma =>
  go_upto_region 15 with (go_at_call 31; refine (C3.out _ hB).mono ?_; rintro e V' ⟨⟨A0, k, cap, F, rfl, hF, hk, hFs⟩, hb1⟩)
  replace hL := hL.below hb1
  replace hB := hB.trans (hb1.mono hB.size)
  clear hb1 V
  obtain ⟨V, rfl⟩ : ∃ V, V = V' := ⟨_, rfl⟩
  obtain ⟨sb, sx, sy, sc, hS⟩ := sumRes_shape F k
  have hX := HX.out
  have CS : Hid (∀ W, Below w.heap.size w W → RatAt W A0 k F → _) := Lib.hid fun W hW g => implSum_any A0 k cap F W (by omega) g (fun j hj => by have := hFs j hj; omega) (hX.below hW).1 (hX.below hW).2.1 (hX.below hW).2.2.1
  have CS' : Hid (∀ (W : World), RatAt W A0 k F → _) := Lib.hid fun W g => specSum_any A0 k cap F W (by omega) g (fun j hj => by have := hFs j hj; omega)
  rw [hS] at CS CS'
  have HFk := Lib.hid hF
  clear hS hX C3 hF hFs
  go_upto_region 16 with (go_at_call 32; refine (CS.out _ hB HFk.out).mono ?_; rintro e w1 ⟨rfl, hb1⟩; obtain ⟨hB', hL'⟩ := laid_new #[.bool sb, .string sx, .string sy] hB hL hb1; have hF1 := HFk.out.below hb1 (Nat.le_refl _); have hF2 := hF1.below ((Below.refl w1.heap.size w1).alloc (Nat.le_refl _) (.cells #[.bool sb, .string sx, .string sy] 24)) (Nat.le_refl _))
  clear hB hL hb1 HFk hF1
  obtain ⟨V', hV⟩ : ∃ V, V = w1.alloc (.cells #[.bool sb, .string sx, .string sy] 24) := ⟨_, rfl⟩
  rw [← hV] at hB' hL' hF2 ⊢
  clear hV V
  generalize w1.heap.size = G27 at hL' ⊢
  clear w1
  obtain ⟨V, rfl⟩ : ∃ V, V = V' := ⟨_, rfl⟩
  have hB := hB'
  have hL := hL'
  clear hB' hL'
  have HFk := Lib.hid hF2
  clear hF2
  go_upto_region 17 with (go_at_call 33; refine (CS'.out _ HFk.out).mono ?_; rintro e w1 ⟨rfl, hb1⟩; obtain ⟨hB', hL'⟩ := laid_new #[.bool sb, .string sx, .string sy] hB hL hb1)
  clear hB hL hb1 HFk
  obtain ⟨V', hV⟩ : ∃ V, V = w1.alloc (.cells #[.bool sb, .string sx, .string sy] 24) := ⟨_, rfl⟩
  rw [← hV] at hB' hL' ⊢
  clear hV V
  generalize w1.heap.size = G29 at hL' ⊢
  clear w1
  obtain ⟨V, rfl⟩ : ∃ V, V = V' := ⟨_, rfl⟩
  have hB := hB'
  have hL := hL'
  clear hB' hL'
  clear CS CS'
  as_aux_lemma =>
  go_upto_region 18 with (go_at_call 34; refine (C4.out _ hB).mono ?_; rintro e V' ⟨⟨u, v, rfl, q1, q2, q3, q4⟩, hb1⟩)
  replace hL := hL.below hb1
  replace hB := hB.trans (hb1.mono hB.size)
  clear hb1 V
  obtain ⟨V, rfl⟩ : ∃ V, V = V' := ⟨_, rfl⟩
  obtain ⟨ub, ux, uy, uc, CR', CRi⟩ := ratOf_both u v q1 q2 q3 q4
  have hX := HX.out
  have CR : Hid (∀ W, Below w.heap.size w W → _) := Lib.hid fun W hW => CRi W ⟨(hX.below hW).2.1, (hX.below hW).2.2.1⟩
  have CQ := Lib.hid CR'
  clear hX C4 CR' CRi
  go_upto_region 19 with (go_at_call 19; refine (CR.out _ hB).mono ?_; rintro e w1 ⟨rfl, hb1⟩; obtain ⟨hB', hL'⟩ := laid_new #[.bool ub, .string ux, .string uy] hB hL hb1)
  clear hB hL hb1
  obtain ⟨V', hV⟩ : ∃ V, V = w1.alloc (.cells #[.bool ub, .string ux, .string uy] 24) := ⟨_, rfl⟩
  rw [← hV] at hB' hL' ⊢
  clear hV V
  generalize w1.heap.size = G33 at hL' ⊢
  clear w1
  obtain ⟨V, rfl⟩ : ∃ V, V = V' := ⟨_, rfl⟩
  have hB := hB'
  have hL := hL'
  clear hB' hL'
  go_upto_region 20 with (go_at_call 35; refine (CQ.out _).mono ?_; rintro e w1 ⟨rfl, hb1⟩; obtain ⟨hB', hL'⟩ := laid_new #[.bool ub, .string ux, .string uy] hB hL hb1)
  clear hB hL hb1
  obtain ⟨V', hV⟩ : ∃ V, V = w1.alloc (.cells #[.bool ub, .string ux, .string uy] 24) := ⟨_, rfl⟩
  rw [← hV] at hB' hL' ⊢
  clear hV V
  generalize w1.heap.size = G35 at hL' ⊢
  clear w1
  obtain ⟨V, rfl⟩ : ∃ V, V = V' := ⟨_, rfl⟩
  have hB := hB'
  have hL := hL'
  clear hB' hL'
  clear CR CQ
  as_aux_lemma =>
  have efc : (!fc == fc) = false := by cases fc <;> rfl
  have epc : (!pc == pc) = false := by cases pc <;> rfl
  have exc : (!xc == xc) = false := by cases xc <;> rfl
  have edc : (!dc == dc) = false := by cases dc <;> rfl
  have esc : (!sc == sc) = false := by cases sc <;> rfl
  have euc : (!uc == uc) = false := by cases uc <;> rfl
  obtain ⟨m10, m11, m12⟩ := hL.get 8 rfl
  obtain ⟨m20, m21, m22⟩ := hL.get 7 rfl
  obtain ⟨m30, m31, m32⟩ := hL.get 6 rfl
  obtain ⟨m40, m41, m42⟩ := hL.get 5 rfl
  obtain ⟨m50, m51, m52⟩ := hL.get 3 rfl
  obtain ⟨m60, m61, m62⟩ := hL.get 2 rfl
  obtain ⟨m70, m71, m72⟩ := hL.get 1 rfl
  obtain ⟨m80, m81, m82⟩ := hL.get 0 rfl
  go_upto_if 194 with fail
  clear efc epc exc edc esc euc m10 m11 m12 m20 m21 m22 m30 m31 m32 m40 m41 m42 m50 m51 m52 m60 m61 m62 m70 m71 m72 m80 m81 m82
  as_aux_lemma =>
  go_cut [] (fun wx => Below w.heap.size w wx ∧ Boxes wx [(G35, #[.bool ub, .string ux, .string uy]), (G33, #[.bool ub, .string ux, .string uy]), (G29, #[.bool sb, .string sx, .string sy]), (G27, #[.bool sb, .string sx, .string sy]), (G20, #[.bool b2, .string x2, .string y2]), (G18, #[.bool xb, .string xx, .string xy]), (G16, #[.bool xb, .string xx, .string xy]), (G13, #[.bool pb, .string px, .string py]), (G11, #[.bool pb, .string px, .string py]), (G5, #[.bool b1, .string x1, .string y1])])
  case first =>
    as_aux_lemma =>
    cases fc
    case false =>
      as_aux_lemma =>
      go_wp2_with fail
      go_meet
      exact ⟨hB, hL⟩
    case true =>
      as_aux_lemma =>
      obtain ⟨hv, hft⟩ := fmtRes_yes HF.out
      have hsz := fmtS_size b1 x1 y1
      have hX := HX.out
      have K1 : Hid (∀ W, Below w.heap.size w W → _) := Lib.hid fun W hW => implParse_any ft W mx (by rw [hft]; omega) (hX.below hW).1 (hX.below hW).2.1 (hX.below hW).2.2.2.2
      have hbk := parse_back hv
      rw [← hft] at hbk
      rw [hbk] at K1
      clear hX hbk hft hsz hv
      go_upto_region 24 with (go_at_call 26; refine (K1.out _ hB).mono ?_; rintro e w1 ⟨rfl, hb1⟩; obtain ⟨hBz, hLz⟩ := laid_new #[.bool b1, .string x1, .string y1] hB hL hb1)
      clear hb1 
      obtain ⟨Vz, hV⟩ : ∃ V, V = w1.alloc (.cells #[.bool b1, .string x1, .string y1] 24) := ⟨_, rfl⟩
      rw [← hV] at hBz hLz ⊢
      clear hV
      generalize w1.heap.size = GX at hLz ⊢
      clear w1
      obtain ⟨f0, f1, f2⟩ := hLz.get 0 rfl
      obtain ⟨a0, a1, a2⟩ := hLz.get 10 rfl
      go_wp2_with fail
      go_meet
      exact ⟨hBz, hLz.tail⟩
  clear hB hL
  obtain ⟨hB, hL⟩ := hcut
  go_upto_region 26 with fail
  as_aux_lemma =>
  go_cut [211] (fun s211 wx => s211 = .bool (pc && decide (0 < z1)) ∧ Below w.heap.size w wx ∧ Boxes wx [(G35, #[.bool ub, .string ux, .string uy]), (G33, #[.bool ub, .string ux, .string uy]), (G29, #[.bool sb, .string sx, .string sy]), (G27, #[.bool sb, .string sx, .string sy]), (G20, #[.bool b2, .string x2, .string y2]), (G18, #[.bool xb, .string xx, .string xy]), (G16, #[.bool xb, .string xx, .string xy]), (G13, #[.bool pb, .string px, .string py]), (G11, #[.bool pb, .string px, .string py]), (G5, #[.bool b1, .string x1, .string y1])])
  case first =>
    as_aux_lemma =>
    cases pc
    case false =>
      go_wp2_with fail
      go_meet
      exact ⟨rfl, hB, hL⟩
    case true =>
      go_wp2_with fail
      go_meet
      exact ⟨by simp, hB, hL⟩
  clear hB hL
  obtain ⟨rfl, hB, hL⟩ := hcut
  go_upto_if 211 with fail
  as_aux_lemma =>
  go_cut [] (fun wx => Below w.heap.size w wx ∧ Boxes wx [(G35, #[.bool ub, .string ux, .string uy]), (G33, #[.bool ub, .string ux, .string uy]), (G29, #[.bool sb, .string sx, .string sy]), (G27, #[.bool sb, .string sx, .string sy]), (G20, #[.bool b2, .string x2, .string y2]), (G18, #[.bool xb, .string xx, .string xy]), (G16, #[.bool xb, .string xx, .string xy]), (G13, #[.bool pb, .string px, .string py]), (G11, #[.bool pb, .string px, .string py]), (G5, #[.bool b1, .string x1, .string y1])])
  case first =>
    as_aux_lemma =>
    cases hcond : (pc && decide (0 < z1))
    case false =>
      as_aux_lemma =>
      go_wp2_with fail
      go_meet
      exact ⟨hB, hL⟩
    case true =>
      as_aux_lemma =>
      have hP := HPw.out
      rw [Bool.and_eq_true, decide_eq_true_eq] at hcond
      obtain ⟨hpc, hz⟩ := hcond
      rw [hpc] at hP
      clear hpc
      obtain ⟨lb, lx, ly, lc, hl⟩ := powRes_shape b1 x1 y1 (z1 - 1)
      obtain ⟨s1, s2⟩ := powRes_short hl
      obtain ⟨tb, tx, ty, tc, ht⟩ := opRes_shape lb lx ly b1 x1 y1 (mulO lb (numOf lx) (numOf ly) b1 (numOf x1) (numOf y1))
      have hX := HX.out
      have K1 : Hid (∀ W, Below w.heap.size w W → _) := Lib.hid fun W hW => implPow_any b1 x1 y1 (z1 - 1) W (by omega) (by omega) (hX.below hW).1 (hX.below hW).2.1 (hX.below hW).2.2.1
      have K2 : Hid (∀ W, Below w.heap.size w W → _) := Lib.hid fun W hW => implMul_any lb lx ly b1 x1 y1 W (by omega) (by omega) (by omega) (by omega) (hX.below hW).1 (hX.below hW).2.1 (hX.below hW).2.2.1
      rw [hl] at K1
      rw [ht] at K2
      have Hl := Lib.hid hl
      have Ht := Lib.hid ht
      have Hp := Lib.hid hP
      have n1 : IntKind.i64.wrap (z1 - 1) = z1 - 1 := IntWalk.i64_in _ (by omega)
      clear hX hl ht hP s1 s2
      obtain ⟨a0, a1, a2⟩ := hL.get 9 rfl
      go_upto_region 28 with (go_at_call 23; refine (K1.out _ hB).mono ?_; rintro e w1 ⟨rfl, hb1⟩; obtain ⟨hBy, hLy⟩ := laid_new #[.bool lb, .string lx, .string ly] hB hL hb1)
      clear hb1 a0 a1 a2
      obtain ⟨Vy, hV⟩ : ∃ V, V = w1.alloc (.cells #[.bool lb, .string lx, .string ly] 24) := ⟨_, rfl⟩
      rw [← hV] at hBy hLy ⊢
      clear hV
      generalize w1.heap.size = GX at hLy ⊢
      clear w1
      obtain ⟨l0, l1, l2⟩ := hLy.get 0 rfl
      obtain ⟨a0, a1, a2⟩ := hLy.get 10 rfl
      go_upto_region 29 with (go_at_call 9; refine (K2.out _ hBy).mono ?_; rintro e w1 ⟨rfl, hb1⟩; obtain ⟨hBz, hLz⟩ := laid_new #[.bool tb, .string tx, .string ty] hBy hLy hb1)
      clear hb1 l0 l1 l2 a0 a1 a2
      obtain ⟨Vz, hV⟩ : ∃ V, V = w1.alloc (.cells #[.bool tb, .string tx, .string ty] 24) := ⟨_, rfl⟩
      rw [← hV] at hBz hLz ⊢
      clear hV
      generalize w1.heap.size = GY at hLz ⊢
      clear w1
      cases lc
      case false =>
        as_aux_lemma =>
        go_wp2_with fail
        go_meet
        exact ⟨hBz, hLz.tail.tail⟩
      case true =>
        as_aux_lemma =>
        have hbk := pow_back hz Hp.out Hl.out
        rw [Ht.out] at hbk
        simp only [Value.tuple.injEq, Value.agg.injEq, Value.bool.injEq, Value.string.injEq, Array.mk.injEq, List.cons.injEq, and_true] at hbk
        obtain ⟨⟨rfl, rfl, rfl⟩, rfl⟩ := hbk
        obtain ⟨f0, f1, f2⟩ := hLz.get 0 rfl
        obtain ⟨a0, a1, a2⟩ := hLz.get 10 rfl
        clear Hp Hl Ht
        go_wp2_with fail
        go_meet
        exact ⟨hBz, hLz.tail.tail⟩
  clear hB hL
  obtain ⟨hB, hL⟩ := hcut
  go_upto_region 31 with fail
  as_aux_lemma =>
  go_cut [243] (fun s243 wx => s243 = .bool (dc && decide (0 < z2) && decide (z2 < 50)) ∧ Below w.heap.size w wx ∧ Boxes wx [(G35, #[.bool ub, .string ux, .string uy]), (G33, #[.bool ub, .string ux, .string uy]), (G29, #[.bool sb, .string sx, .string sy]), (G27, #[.bool sb, .string sx, .string sy]), (G20, #[.bool b2, .string x2, .string y2]), (G18, #[.bool xb, .string xx, .string xy]), (G16, #[.bool xb, .string xx, .string xy]), (G13, #[.bool pb, .string px, .string py]), (G11, #[.bool pb, .string px, .string py]), (G5, #[.bool b1, .string x1, .string y1])])
  case first =>
    as_aux_lemma =>
    cases dc
    case false =>
      go_wp2_with fail
      go_meet
      exact ⟨rfl, hB, hL⟩
    case true =>
      by_cases hz : 0 < z2
      · have d1 : decide (0 < z2) = true := decide_eq_true hz
        go_wp2_with fail
        go_meet
        exact ⟨by simp [hz], hB, hL⟩
      · have d1 : decide (0 < z2) = false := decide_eq_false hz
        go_wp2_with fail
        go_meet
        exact ⟨by (simp; omega), hB, hL⟩
  clear hB hL
  obtain ⟨rfl, hB, hL⟩ := hcut
  go_upto_if 243 with fail
  as_aux_lemma =>
  cases hcond : (dc && decide (0 < z2) && decide (z2 < 50))
  case false =>
    as_aux_lemma =>
    go_wp2_with fail
    go_ret
    exact ⟨rfl, hB⟩
  case true =>
    as_aux_lemma =>
    rw [Bool.and_eq_true, Bool.and_eq_true, decide_eq_true_eq, decide_eq_true_eq] at hcond
    obtain ⟨⟨hdc, hz⟩, hz5⟩ := hcond
    have hD := HD.out
    rw [hdc] at hD
    clear hdc
    have hlg := decRes_long hD
    obtain ⟨t', hd', hsz, hex⟩ := dec_back hz hz5 hD
    have hX := HX.out
    have K1 : Hid (∀ W, Below w.heap.size w W → _) := Lib.hid fun W hW => implDec_any b2 x2 y2 (z2 + 1) W (by omega) (by omega) (hX.below hW).1 (hX.below hW).2.1 (hX.below hW).2.2.1
    rw [hd'] at K1
    have n1 : IntKind.i64.wrap (z2 + 1) = z2 + 1 := IntWalk.i64_in _ (by omega)
    have n2' : IntKind.i64.wrap ((dt.size : Int) + 1) = (dt.size : Int) + 1 := IntWalk.i64_in _ (by omega)
    have hst : (t'.size : Int) = (dt.size : Int) + 1 := by omega
    have hle : dt.size ≤ t'.size := by omega
    have HSZ := Lib.hid hsz
    clear hX hD hd' hsz
    obtain ⟨a0, a1, a2⟩ := hL.get 4 rfl
    go_wp2_with (go_at_call 29; refine (K1.out _ hB).mono ?_; rintro e w1 ⟨rfl, hb1⟩)
    go_ret
    exact ⟨rfl, hB.trans (hb1.mono hB.size)⟩

end Go.Proofs.YtmmonglcbkefmaaGreatDoor
