/-
  The law on TableOf. (Written by gen_dglaw1.py.)
-/
import Derived.Test.YtamjfcckgeakfaaDgTa
import Derived.Deep.RegionWith
namespace Go.Proofs.Ytamjfcckgeakfaa
open Go.RowKit Num

set_option maxRecDepth 100000 in
set_option maxHeartbeats 6400000 in
theorem lawTaDg_any (L r : Int) (A0 : Option Addr) (n c0 : Nat) (f : Nat → Int) (w : World) (hn : n ≤ 9223372036854775807) (h0 : IntsAt 0 w A0 (n * 3) f) :
    Calls Try.prog 7 #[dgV L A0 n c0 r] w fun e w' => e = .returned (.bool true) ∧ Below w.heap.size w w' := by
  have hP := Box.new w 24 #[.int .i64 L, .slice A0 n c0, .int .i64 r]
  have hB := (Below.refl w.heap.size w).alloc (Nat.le_refl _) (.cells #[.int .i64 L, .slice A0 n c0, .int .i64 r] 24)
  obtain ⟨q0, q1, q2⟩ := hP.trio
  have CZ1 : Hid (∀ W, _) := Lib.hid fun W => szDg_any L r A0 n c0 1048576 W hn (by omega) (by omega)
  have H := Lib.hid h0
  clear h0
  go_enter Try.func7, Try.ntmps7
  go_upto_region 5 with (first
    | (go_at_call 9
       with_reducible refine (CZ1.out _).mono ?_
       rintro e w1 ⟨⟨r1, rfl, hr1⟩, hb⟩
       clear q0 q1 q2
       replace hP := hP.below hb hP.lt
       replace hB := hB.trans (hb.mono hB.size)
       clear hb
       obtain ⟨q0, q1, q2⟩ := hP.trio))
  all_goals first
    | (go_ret
       exact ⟨rfl, hB⟩)
    | skip
  have SP : Hid (n ≤ 1048576) := Lib.hid (hr1.out.2 (by omega))
  have CP : Hid (∀ W, Below w.heap.size w W → _) := Lib.hid fun W hW => toDg_any 0 L r A0 n c0 f W SP.out (H.out.below hW (Nat.le_refl _))
  have CE : Hid (∀ (l1 l2 g1 k1 : Nat) (W : World), IntsAt l1 W (some ⟨g1, 0, none⟩) (n * 3) f → IntsAt l2 W (some ⟨k1, 0, none⟩) (n * 3) f → _) := Lib.hid fun l1 l2 g1 k1 W x y => eqDg_any l1 l2 L r (some ⟨g1, 0, none⟩) (some ⟨k1, 0, none⟩) n n n f W SP.out x y
  have CS : Hid (∀ (l g1 : Nat) (W : World), IntsAt l W (some ⟨g1, 0, none⟩) (n * 3) f → _) := Lib.hid fun l g1 W x => specTa_any l L r n n (some ⟨g1, 0, none⟩) f W SP.out x
  have CM : Hid (∀ (l g1 : Nat) (W : World), IntsAt l W (some ⟨g1, 0, none⟩) (n * 3) f → _) := Lib.hid fun l g1 W x => implTa_any l L r n n (some ⟨g1, 0, none⟩) f W SP.out x
  generalize vaB L r n f = z at CS CM
  generalize taS L r n f = x at CS CM
  have n3 : (z != z) = false := by cases z <;> rfl
  have n4 : (x.data.toList != x.data.toList) = false := bne_self_eq_false _
  clear hr1 H CZ1 SP
  go_upto_region 6 with (first
    | (go_at_call 11
       with_reducible refine (CP.out _ hB).mono ?_
       rintro e w2 ⟨⟨g1, rfl, hg⟩, hb⟩
       clear q0 q1 q2
       replace hP := hP.below hb hP.lt
       replace hB := hB.trans (hb.mono hB.size)
       clear hb
       obtain ⟨q0, q1, q2⟩ := hP.trio)
    | (go_at_call 22
       with_reducible refine (CS.out _ _ _ hg).mono ?_
       rintro e w4 ⟨rfl, hb⟩
       clear q0 q1 q2
       replace hP := hP.below hb hP.lt
       replace hB := hB.trans (hb.mono hB.size)
       clear hb hg
       obtain ⟨q0, q1, q2⟩ := hP.trio))
  go_upto_region 7 with (first
    | (go_at_call 11
       with_reducible refine (CP.out _ hB).mono ?_
       rintro e w5 ⟨⟨g1, rfl, hg⟩, hb⟩
       clear q0 q1 q2
       have hX := Box.new w5 28 #[.int .i64 L, .slice (some ⟨g1, 0, none⟩) n n, .int .i64 r]
       have hal := (Below.refl w5.heap.size w5).alloc (Nat.le_refl _) (.cells #[.int .i64 L, .slice (some ⟨g1, 0, none⟩) n n, .int .i64 r] 28)
       replace hP := (hP.below hb hP.lt).alloc (.cells #[.int .i64 L, .slice (some ⟨g1, 0, none⟩) n n, .int .i64 r] 28)
       replace hg := hg.below hal (Nat.le_refl _)
       replace hB := hB.trans (hb.mono hB.size)
       replace hB := hB.trans (hal.mono hB.size)
       clear hb hal
       obtain ⟨q0, q1, q2⟩ := hP.trio
       obtain ⟨x0, x1, x2⟩ := hX.trio))
  go_upto_region 10 with (first
    | (go_at_call 23
       with_reducible refine (CM.out _ _ _ hg).mono ?_
       rintro e w7 ⟨rfl, hb⟩
       clear q0 q1 q2 x0 x1 x2
       replace hP := hP.below hb hP.lt
       replace hX := hX.below hb hX.lt
       replace hg := hg.below hb (Nat.le_refl _)
       replace hB := hB.trans (hb.mono hB.size)
       clear hb
       obtain ⟨q0, q1, q2⟩ := hP.trio
       obtain ⟨x0, x1, x2⟩ := hX.trio))
  go_cut [39] (fun v wx => v = .bool false ∧ Below w7.heap.size w7 wx)
  case first =>
    have HB := Lib.hid hB
    have HG := Lib.hid hg
    have hxl := hX.lt
    have hbl := hP.lt
    clear hB hP hX hg
    go_region_held3 (fun w' => w'.cell? ⟨w5.heap.size, 0, none⟩ = some (.int .i64 L) ∧ w'.cell? ⟨w5.heap.size, 1, none⟩ = some (.slice (some ⟨g1, 0, none⟩) n n) ∧ w'.cell? ⟨w5.heap.size, 2, none⟩ = some (.int .i64 r) ∧ w'.cell? ⟨w.heap.size, 0, none⟩ = some (.int .i64 L) ∧ w'.cell? ⟨w.heap.size, 1, none⟩ = some (.slice A0 n c0) ∧ w'.cell? ⟨w.heap.size, 2, none⟩ = some (.int .i64 r) ∧ Below w7.heap.size w7 w')
      ((suffices hBB : Below w7.heap.size w7 _ from ⟨(hBB.cell hxl).trans x0, (hBB.cell hxl).trans x1, (hBB.cell hxl).trans x2, (hBB.cell hbl).trans q0, (hBB.cell hbl).trans q1, (hBB.cell hbl).trans q2, hBB⟩; first | exact (Below.refl _ w7).drew | exact heldE3 (by assumption) | (refine stepB (heldE3 (by assumption)) ?_; assumption)))
      (first
        | (go_at_call 11; refine (CP.out _ (HB.out.trans ((heldE3 (by assumption)).mono HB.out.size))).mono ?_; rintro e w9 ⟨⟨m1, rfl, hm⟩, hb7⟩; have Hm := Lib.hid hm; clear hm)
        | (go_at_call 13; refine (CE.out _ _ _ _ _ (HG.out.below (heldE3 (by assumption)) (Nat.le_refl _)) Hm.out).mono ?_; rintro e w10 ⟨rfl, hb8⟩))
    all_goals go_wp2_with fail
    all_goals go_meet
    all_goals exact ⟨rfl, heldE3 (by assumption)⟩
  obtain ⟨rfl, hb⟩ := hcut
  go_wp2_with fail
  go_ret
  exact ⟨rfl, hB.trans (hb.mono hB.size)⟩

end Go.Proofs.Ytamjfcckgeakfaa
