/-
  The law on ExistsDiagram. (Written by gen_dglaw2.py.)
-/
import Derived.Test.YtamjfcckgeakfaaDgEx
import Derived.Deep.RegionWith
namespace Go.Proofs.Ytamjfcckgeakfaa
open Go.RowKit Num

theorem lawExDg_any_le (L r : Int) (v : Int) (n : Nat) (f : Nat → Int) : anN (exO L r v n f) (exD L.toNat v.toNat r.toNat n f) ≤ 1048576 := by
  unfold anN
  split
  · rename_i h
    obtain ⟨⟨hL, h4, hro, hs⟩, _⟩ := (vd_iff L r n f).1 ((vaB_iff L r n f).1 (Bool.and_eq_true_iff.1 h).1)
    exact (bld_new0 _ (by omega)).2.2.1
  · omega

set_option maxRecDepth 100000 in
set_option maxHeartbeats 6400000 in
theorem lawExDg_any (L r : Int) (A0 : Option Addr) (n c0 : Nat) (f : Nat → Int) (v : Int) (w : World) (hn : n ≤ 9223372036854775807) (h0 : IntsAt 0 w A0 (n * 3) f) :
    Calls Try.prog 6 #[dgV L A0 n c0 r, .int .i64 v] w fun e w' => e = .returned (.bool true) ∧ Below w.heap.size w w' := by
  have hP := Box.new w 24 #[.int .i64 L, .slice A0 n c0, .int .i64 r]
  have hB := (Below.refl w.heap.size w).alloc (Nat.le_refl _) (.cells #[.int .i64 L, .slice A0 n c0, .int .i64 r] 24)
  obtain ⟨q0, q1, q2⟩ := hP.trio
  have CZ1 : Hid (∀ W, _) := Lib.hid fun W => szDg_any L r A0 n c0 1048576 W hn (by omega) (by omega)
  have H := Lib.hid h0
  clear h0
  go_enter Try.func6, Try.ntmps6
  go_upto_region 5 with (first
    | (go_at_call 9
       with_reducible refine (CZ1.out _).mono ?_
       rintro e w1 ⟨⟨r1, rfl, hr1⟩, hb⟩
       clear q0 q1 q2
       replace hP := hP.below hb hP.lt
       replace hB := hB.trans (hb.mono hB.size)
       clear hb
       obtain ⟨q0, q1, q2⟩ := hP.trio))
  all_goals first
    | (go_ret
       exact ⟨rfl, hB⟩)
    | skip
  have SP : Hid (n ≤ 1048576) := Lib.hid (hr1.out.2 (by omega))
  have CP : Hid (∀ W, Below w.heap.size w W → _) := Lib.hid fun W hW => toDg_any 0 L r A0 n c0 f W SP.out (H.out.below hW (Nat.le_refl _))
  have CE : Hid (∀ (l1 l2 g1 k1 : Nat) (W : World), IntsAt l1 W (some ⟨g1, 0, none⟩) (n * 3) f → IntsAt l2 W (some ⟨k1, 0, none⟩) (n * 3) f → _) := Lib.hid fun l1 l2 g1 k1 W x y => eqDg_any l1 l2 L r (some ⟨g1, 0, none⟩) (some ⟨k1, 0, none⟩) n n n f W SP.out x y
  have CS : Hid (∀ (l g1 : Nat) (W : World), IntsAt l W (some ⟨g1, 0, none⟩) (n * 3) f → Calls Try.prog 20 #[dgV L (some ⟨g1, 0, none⟩) n n r, .int .i64 v] W (DgPost (anL (exO L r v n f) L) (anR (exO L r v n f) (exD L.toNat v.toNat r.toNat n f)) (anN (exO L r v n f) (exD L.toNat v.toNat r.toNat n f)) (nf (exD L.toNat v.toNat r.toNat n f).2) (exO L r v n f) W)) := Lib.hid fun l g1 W x => specEx_any l L r v n n (some ⟨g1, 0, none⟩) f W SP.out x
  have CM : Hid (∀ (l g1 : Nat) (W : World), IntsAt l W (some ⟨g1, 0, none⟩) (n * 3) f → Calls Try.prog 21 #[dgV L (some ⟨g1, 0, none⟩) n n r, .int .i64 v] W (DgPost (anL (exO L r v n f) L) (anR (exO L r v n f) (exD L.toNat v.toNat r.toNat n f)) (anN (exO L r v n f) (exD L.toNat v.toNat r.toNat n f)) (nf (exD L.toNat v.toNat r.toNat n f).2) (exO L r v n f) W)) := Lib.hid fun l g1 W x => implEx_any l L r v n n (some ⟨g1, 0, none⟩) f W SP.out x
  have hN : anN (exO L r v n f) (exD L.toNat v.toNat r.toNat n f) ≤ 1048576 := lawExDg_any_le L r v n f
  generalize anL (exO L r v n f) L = L' at CS CM
  generalize anR (exO L r v n f) (exD L.toNat v.toNat r.toNat n f) = r' at CS CM
  generalize anN (exO L r v n f) (exD L.toNat v.toNat r.toNat n f) = N at CS CM hN
  generalize nf (exD L.toNat v.toNat r.toNat n f).2 = F at CS CM
  generalize (exO L r v n f) = ok at CS CM
  have n3 : (ok != ok) = false := by cases ok <;> rfl
  obtain ⟨M, hM⟩ : ∃ M, M = 1 + ((N * 3 : Nat) : Int) := ⟨_, rfl⟩
  have dM : decide (M < 0) = false := decide_eq_false (by omega)
  have nM : (M != M) = false := bne_self_eq_false _
  obtain ⟨K, hK⟩ : ∃ K, K = 1 + ((n * 3 : Nat) : Int) := ⟨_, rfl⟩
  have dK : decide (K < 0) = false := decide_eq_false (by omega)
  have CI : Hid (∀ (l1 l2 : Nat) (A B : Option Addr) (c d : Nat) (W : World), IntsAt l1 W A (N * 3) F → IntsAt l2 W B (N * 3) F → _) := Lib.hid fun l1 l2 A B c d W x y => eqDg_any l1 l2 L' r' A B N c d F W hN x y
  have CO : Hid (∀ (l1 l2 : Nat) (A : Option Addr) (c : Nat) (W : World), ShI l1 l2 W A (N * 3) → _) := Lib.hid fun l1 l2 A c W x => markDg_any l1 l2 L' r' A N c W hN x
  have CH : Hid (∀ (l : Nat) (A : Option Addr) (c : Nat) (W : World), IntsAt l W A (N * 3) (fun j => 1 + (j : Int)) → _) := Lib.hid fun l A c W x => heldDg_any l L' r' A N c W hN x
  have CD : Hid (∀ (l1 l2 : Nat) (A : Option Addr) (c : Nat) (W : World), ShI l1 l2 W A (n * 3) → _) := Lib.hid fun l1 l2 A c W x => markDg_any l1 l2 L r A n c W SP.out x
  rw [← hM] at CO CH
  rw [← hK] at CD
  have HB1 := hB
  clear hr1 H CZ1 SP hM hK HB1
  go_upto_region 6 with (first
    | (go_at_call 11
       with_reducible refine (CP.out _ hB).mono ?_
       rintro e w2 ⟨⟨g1, rfl, hg⟩, hb⟩
       clear q0 q1 q2
       replace hP := hP.below hb hP.lt
       replace hB := hB.trans (hb.mono hB.size)
       clear hb
       obtain ⟨q0, q1, q2⟩ := hP.trio
       skip)
    | (go_at_call 20
       with_reducible refine (CS.out _ _ _ hg).mono ?_
       rintro e W0 ⟨A5, c5, rfl, hw0, hb⟩
       clear q0 q1 q2
       clear hg
       replace hP := hP.below hb hP.lt
       replace hB := hB.trans (hb.mono hB.size)
       have HW := Lib.hid hw0
       have hL := hP.lt
       have hX5 := Box.new W0 28 #[.int .i64 L', .slice A5 N c5, .int .i64 r']
       have hB0 := (Below.refl W0.heap.size W0).alloc (Nat.le_refl _) (.cells #[.int .i64 L', .slice A5 N c5, .int .i64 r'] 28)
       replace hP := hP.alloc (.cells #[.int .i64 L', .slice A5 N c5, .int .i64 r'] 28)
       replace hB := hB.trans (hB0.mono hB.size)
       clear hb hw0
       obtain ⟨q0, q1, q2⟩ := hP.trio
       obtain ⟨x0, x1, x2⟩ := hX5.trio
       skip))
  have hl5 := hX5.lt
  go_upto_region 7 with (first
    | (go_at_call 11
       with_reducible refine (CP.out _ hB).mono ?_
       rintro e w3 ⟨⟨g1, rfl, hg⟩, hb⟩
       obtain ⟨lo3, hlo3, hg⟩ : ∃ l, l = (W0.alloc (.cells #[.int .i64 L', .slice A5 N c5, .int .i64 r'] 28)).heap.size ∧ IntsAt l w3 (some ⟨g1, 0, none⟩) (n * 3) f := ⟨_, rfl, hg⟩
       have hs3 := hb.size
       rw [← hlo3] at hl5 hs3
       have hs0 := hB0.size
       rw [← hlo3] at hs0
       clear hlo3
       have HSX := Lib.hid (hg.sh (by omega) (Nat.le_refl w3.heap.size))
       clear q0 q1 q2 x0 x1 x2
       have hX := Box.new w3 28 #[.int .i64 L, .slice (some ⟨g1, 0, none⟩) n n, .int .i64 r]
       have hal := (Below.refl w3.heap.size w3).alloc (Nat.le_refl _) (.cells #[.int .i64 L, .slice (some ⟨g1, 0, none⟩) n n, .int .i64 r] 28)
       replace hP := hP.below hb hP.lt
       replace hX5 := hX5.below hb hX5.lt
       replace hB := hB.trans (hb.mono hB.size)
       replace hB0 := hB0.trans (hb.mono hB0.size)
       clear hb
       have hb := hal
       replace hP := hP.below hb hP.lt
       replace hX5 := hX5.below hb hX5.lt
       replace hB := hB.trans (hb.mono hB.size)
       replace hB0 := hB0.trans (hb.mono hB0.size)
       replace HSX := Lib.hid (HSX.out.marks (.of_below (lo := 0) (hi := 0) hb))
       have HX := Lib.hid (hg.below hb (Nat.le_refl _))
       clear hb hal hg
       obtain ⟨q0, q1, q2⟩ := hP.trio
       obtain ⟨x0, x1, x2⟩ := hX5.trio
       obtain ⟨u0, u1, u2⟩ := hX.trio
       skip))
  generalize hw4 : (w3.alloc (.cells #[.int .i64 L, .slice (some ⟨g1, 0, none⟩) n n, .int .i64 r] 28)) = w4 at hP hX5 hX hB hB0 HSX HX q0 q1 q2 x0 x1 x2 u0 u1 u2 ⊢
  clear hw4
  have hs4 := hX.lt
  go_upto_region 8 with (first
    | (go_at_call 21
       with_reducible refine (CM.out _ _ _ HX.out).mono ?_
       rintro e w5 ⟨A7, c7, rfl, hg0, hb⟩
       have hs5 := hb.size
       have HSC := Lib.hid (hg0.sh (by omega) (Nat.le_refl w5.heap.size))
       clear q0 q1 q2 x0 x1 x2 u0 u1 u2
       have hX7 := Box.new w5 28 #[.int .i64 L', .slice A7 N c7, .int .i64 r']
       have hal := (Below.refl w5.heap.size w5).alloc (Nat.le_refl _) (.cells #[.int .i64 L', .slice A7 N c7, .int .i64 r'] 28)
       replace hP := hP.below hb hP.lt
       replace hX5 := hX5.below hb hX5.lt
       replace hX := hX.below hb hX.lt
       replace hB := hB.trans (hb.mono hB.size)
       replace hB0 := hB0.trans (hb.mono hB0.size)
       replace HX := Lib.hid (HX.out.below hb (Nat.le_refl _))
       replace HSX := Lib.hid (HSX.out.marks (.of_below (lo := 0) (hi := 0) hb))
       clear hb
       have hb := hal
       replace hP := hP.below hb hP.lt
       replace hX5 := hX5.below hb hX5.lt
       replace hX := hX.below hb hX.lt
       replace hB := hB.trans (hb.mono hB.size)
       replace hB0 := hB0.trans (hb.mono hB0.size)
       replace HX := Lib.hid (HX.out.below hb (Nat.le_refl _))
       replace HSX := Lib.hid (HSX.out.marks (.of_below (lo := 0) (hi := 0) hb))
       replace HSC := Lib.hid (HSC.out.marks (.of_below (lo := 0) (hi := 0) hb))
       have HG := Lib.hid (hg0.below hb (Nat.le_refl _))
       clear hb hal hg0
       obtain ⟨q0, q1, q2⟩ := hP.trio
       obtain ⟨x0, x1, x2⟩ := hX5.trio
       obtain ⟨u0, u1, u2⟩ := hX.trio
       obtain ⟨y0, y1, y2⟩ := hX7.trio
       skip))
  generalize hlo4 : w4.heap.size = lo4 at hs4 hs5 HSC HG
  clear hlo4
  generalize hw6 : (w5.alloc (.cells #[.int .i64 L', .slice A7 N c7, .int .i64 r'] 28)) = w6 at hP hX5 hX hX7 hB hB0 HSX HSC HX HG q0 q1 q2 x0 x1 x2 u0 u1 u2 y0 y1 y2 ⊢
  clear hw6
  have hs6 := hX7.lt
  go_upto_region 10 with (first
    | (go_at_call 13
       with_reducible refine (CI.out _ _ _ _ _ _ _ HG.out (HW.out.below hB0 (Nat.le_refl _))).mono ?_
       rintro e w8 ⟨rfl, hb⟩
       clear q0 q1 q2 x0 x1 x2 u0 u1 u2 y0 y1 y2
       replace hP := hP.below hb hP.lt
       replace hX5 := hX5.below hb hX5.lt
       replace hX := hX.below hb hX.lt
       replace hX7 := hX7.below hb hX7.lt
       replace hB := hB.trans (hb.mono hB.size)
       replace hB0 := hB0.trans (hb.mono hB0.size)
       replace HX := Lib.hid (HX.out.below hb (Nat.le_refl _))
       replace HG := Lib.hid (HG.out.below hb (Nat.le_refl _))
       replace HSX := Lib.hid (HSX.out.marks (.of_below (lo := 0) (hi := 0) hb))
       replace HSC := Lib.hid (HSC.out.marks (.of_below (lo := 0) (hi := 0) hb))
       replace hs6 := Nat.lt_of_lt_of_le hs6 hb.size
       clear hb
       obtain ⟨q0, q1, q2⟩ := hP.trio
       obtain ⟨x0, x1, x2⟩ := hX5.trio
       obtain ⟨u0, u1, u2⟩ := hX.trio
       obtain ⟨y0, y1, y2⟩ := hX7.trio
       skip))
  go_cut [49] (fun v wx => v = .bool false ∧ Below w8.heap.size w8 wx)
  case first =>
    have HB := Lib.hid hB
    have hxl := hX.lt
    have hbl := hP.lt
    clear hB hB0 hP hX5 hX hX7 HSX HSC HG HW x0 x1 x2 y0 y1 y2
    go_region_held3 (fun w' => w'.cell? ⟨w3.heap.size, 0, none⟩ = some (.int .i64 L) ∧ w'.cell? ⟨w3.heap.size, 1, none⟩ = some (.slice (some ⟨g1, 0, none⟩) n n) ∧ w'.cell? ⟨w3.heap.size, 2, none⟩ = some (.int .i64 r) ∧ w'.cell? ⟨w.heap.size, 0, none⟩ = some (.int .i64 L) ∧ w'.cell? ⟨w.heap.size, 1, none⟩ = some (.slice A0 n c0) ∧ w'.cell? ⟨w.heap.size, 2, none⟩ = some (.int .i64 r) ∧ Below w8.heap.size w8 w')
      ((suffices hBB : Below w8.heap.size w8 _ from ⟨(hBB.cell hxl).trans u0, (hBB.cell hxl).trans u1, (hBB.cell hxl).trans u2, (hBB.cell hbl).trans q0, (hBB.cell hbl).trans q1, (hBB.cell hbl).trans q2, hBB⟩; first | exact (Below.refl _ w8).drew | exact heldE3 (by assumption) | (refine stepB (heldE3 (by assumption)) ?_; assumption)))
      (first
        | (go_at_call 11; refine (CP.out _ (HB.out.trans ((heldE3 (by assumption)).mono HB.out.size))).mono ?_; rintro e w9 ⟨⟨m1, rfl, hm⟩, hb7⟩; have Hm := Lib.hid hm; clear hm)
        | (go_at_call 13; refine (CE.out _ _ _ _ _ (HX.out.below (heldE3 (by assumption)) (Nat.le_refl _)) Hm.out).mono ?_; rintro e w10 ⟨rfl, hb8⟩))
    all_goals go_wp2_with fail
    all_goals go_meet
    all_goals exact ⟨rfl, heldE3 (by assumption)⟩
  obtain ⟨rfl, hb⟩ := hcut
  rename World => wc
  clear q0 q1 q2 x0 x1 x2 u0 u1 u2 y0 y1 y2
  clear HX CE
  replace hP := hP.below hb hP.lt
  replace hX5 := hX5.below hb hX5.lt
  replace hX := hX.below hb hX.lt
  replace hX7 := hX7.below hb hX7.lt
  replace hB := hB.trans (hb.mono hB.size)
  replace hB0 := hB0.trans (hb.mono hB0.size)
  replace HG := Lib.hid (HG.out.below hb (Nat.le_refl _))
  replace HSX := Lib.hid (HSX.out.marks (.of_below (lo := 0) (hi := 0) hb))
  replace HSC := Lib.hid (HSC.out.marks (.of_below (lo := 0) (hi := 0) hb))
  replace hs6 := Nat.lt_of_lt_of_le hs6 hb.size
  clear hb
  obtain ⟨q0, q1, q2⟩ := hP.trio
  obtain ⟨x0, x1, x2⟩ := hX5.trio
  obtain ⟨u0, u1, u2⟩ := hX.trio
  obtain ⟨y0, y1, y2⟩ := hX7.trio
  go_wp2_with (first
    | (go_at_call 13
       with_reducible refine (CI.out _ _ _ _ _ _ _ HH.out (HW.out.below hB0 (Nat.le_refl _))).mono ?_
       rintro e w12 ⟨rfl, hb⟩
       clear x0 x1 x2 y0 y1 y2 z0 z1 z2
       replace hX7 := hX7.below hb hX7.lt
       replace hB := hB.trans (hb.mono hB.size)
       replace HG := Lib.hid (HG.out.below hb (Nat.le_refl _))
       clear hb hX5 hX11 hB0 HH
       obtain ⟨y0, y1, y2⟩ := hX7.trio
       skip)
    | (go_at_call 13
       with_reducible refine (CI.out _ _ _ _ _ _ _ HG.out (HW.out.below hB0 (Nat.le_refl _))).mono ?_
       rintro e w7 ⟨rfl, hb⟩
       clear q0 q1 q2 x0 x1 x2 y0 y1 y2
       replace hP := hP.below hb hP.lt
       replace hX5 := hX5.below hb hX5.lt
       replace hX7 := hX7.below hb hX7.lt
       replace hB := hB.trans (hb.mono hB.size)
       replace hB0 := hB0.trans (hb.mono hB0.size)
       replace HG := Lib.hid (HG.out.below hb (Nat.le_refl _))
       replace HSC := Lib.hid (HSC.out.marks (.of_below (lo := 0) (hi := 0) hb))
       replace hs6 := Nat.lt_of_lt_of_le hs6 hb.size
       clear hb
       obtain ⟨q0, q1, q2⟩ := hP.trio
       obtain ⟨x0, x1, x2⟩ := hX5.trio
       obtain ⟨y0, y1, y2⟩ := hX7.trio
       skip)
    | (go_at_call 14
       with_reducible refine (CD.out _ _ _ _ _ HSX.out).mono ?_
       rintro e w6 ⟨rfl, _, hm⟩
       have hsB := hB0.size
       clear q0 q1 q2 x0 x1 x2 u0 u1 u2 y0 y1 y2
       clear hX
       replace hP := hm.box hP (.inl (by omega))
       replace hX5 := hm.box hX5 (.inl (by omega))
       replace hX7 := hm.box hX7 (.inr (by omega))
       replace hB := hB.trans (hm.toBelow (by omega) (by omega))
       replace hB0 := hB0.trans (hm.toBelow (by omega) (by omega))
       replace HG := Lib.hid (HG.out.keep (hm.keeps.mono (by omega)))
       replace HSC := Lib.hid (HSC.out.marks hm)
       replace hs6 := Nat.lt_of_lt_of_le hs6 hm.size
       clear hm HSX
       obtain ⟨q0, q1, q2⟩ := hP.trio
       obtain ⟨x0, x1, x2⟩ := hX5.trio
       obtain ⟨y0, y1, y2⟩ := hX7.trio
       skip)
    | (go_at_call 14
       with_reducible refine (CO.out _ _ _ _ _ HSC.out).mono ?_
       rintro e w6 ⟨rfl, hg8, hm⟩
       have hsB := hB0.size
       clear q0 q1 q2 x0 x1 x2 y0 y1 y2
       clear HG
       have HG := Lib.hid hg8
       replace hP := hm.box hP (.inl (by omega))
       replace hX5 := hm.box hX5 (.inl (by omega))
       replace hX7 := hm.box hX7 (.inr (by omega))
       replace hB := hB.trans (hm.toBelow (by omega) (by omega))
       replace hB0 := hB0.trans (hm.toBelow (by omega) (by omega))
       replace hs6 := Nat.lt_of_lt_of_le hs6 hm.size
       clear hm hg8 HSC
       obtain ⟨q0, q1, q2⟩ := hP.trio
       obtain ⟨x0, x1, x2⟩ := hX5.trio
       obtain ⟨y0, y1, y2⟩ := hX7.trio
       skip)
    | (go_at_call 15
       with_reducible refine (CH.out _ _ _ _ HG.out).mono ?_
       rintro e w9 ⟨rfl, hb⟩
       clear q0 q1 q2 x0 x1 x2 y0 y1 y2
       replace hP := hP.below hb hP.lt
       replace hX5 := hX5.below hb hX5.lt
       replace hX7 := hX7.below hb hX7.lt
       replace hB := hB.trans (hb.mono hB.size)
       replace hB0 := hB0.trans (hb.mono hB0.size)
       replace HG := Lib.hid (HG.out.below hb (Nat.le_refl _))
       replace hs6 := Nat.lt_of_lt_of_le hs6 hb.size
       clear hb
       obtain ⟨q0, q1, q2⟩ := hP.trio
       obtain ⟨x0, x1, x2⟩ := hX5.trio
       obtain ⟨y0, y1, y2⟩ := hX7.trio
       skip)
    | (go_at_call 15
       with_reducible refine (CH.out _ _ _ _ HG.out).mono ?_
       rintro e w9 ⟨rfl, hb⟩
       replace hB := hB.trans (hb.mono hB.size)
       clear hb)
    | (go_at_call 11
       with_reducible refine (CP.out _ hB).mono ?_
       rintro e w10 ⟨⟨h1, rfl, hk⟩, hb⟩
       clear q0 q1 q2 x0 x1 x2 y0 y1 y2
       replace hP := hP.below hb hP.lt
       replace hX5 := hX5.below hb hX5.lt
       replace hX7 := hX7.below hb hX7.lt
       replace hB := hB.trans (hb.mono hB.size)
       replace hB0 := hB0.trans (hb.mono hB0.size)
       replace HG := Lib.hid (HG.out.below hb (Nat.le_refl _))
       clear hb
       obtain ⟨q0, q1, q2⟩ := hP.trio
       obtain ⟨x0, x1, x2⟩ := hX5.trio
       obtain ⟨y0, y1, y2⟩ := hX7.trio
       skip)
    | (go_at_call 21
       with_reducible refine (CM.out _ _ _ hk).mono ?_
       rintro e w11 ⟨A11, c11, rfl, hh0, hb⟩
       have hX11 := Box.new w11 28 #[.int .i64 L', .slice A11 N c11, .int .i64 r']
       have hal := (Below.refl w11.heap.size w11).alloc (Nat.le_refl _) (.cells #[.int .i64 L', .slice A11 N c11, .int .i64 r'] 28)
       clear q0 q1 q2 x0 x1 x2 y0 y1 y2
       replace hX5 := hX5.below hb hX5.lt
       replace hX7 := hX7.below hb hX7.lt
       replace hB := hB.trans (hb.mono hB.size)
       replace hB0 := hB0.trans (hb.mono hB0.size)
       replace HG := Lib.hid (HG.out.below hb (Nat.le_refl _))
       clear hb
       have hb := hal
       replace hX5 := hX5.below hb hX5.lt
       replace hX7 := hX7.below hb hX7.lt
       replace hB := hB.trans (hb.mono hB.size)
       replace hB0 := hB0.trans (hb.mono hB0.size)
       replace HG := Lib.hid (HG.out.below hb (Nat.le_refl _))
       have HH := Lib.hid (hh0.below hb (Nat.le_refl _))
       clear hb hal hh0 hk hP
       obtain ⟨x0, x1, x2⟩ := hX5.trio
       obtain ⟨y0, y1, y2⟩ := hX7.trio
       obtain ⟨z0, z1, z2⟩ := hX11.trio
       skip))
  go_ret
  exact ⟨rfl, hB⟩

end Go.Proofs.Ytamjfcckgeakfaa
