/-
  The law on EqualDiagram.
-/
import Derived.Test.YtmobcahfalaaeaaDgC
import Derived.Deep.RegionWith
namespace Go.Proofs.Ytmobcahfalaaeaa
open Go.RowKit Num


set_option maxRecDepth 100000 in
set_option maxHeartbeats 6400000 in
theorem lawEqDg_any (L r M s : Int) (A0 A1 : Option Addr) (n m c0 c1 : Nat) (f g : Nat → Int) (w : World) (hn : n ≤ 9223372036854775807) (hm : m ≤ 9223372036854775807) (h0 : IntsAt 0 w A0 (n * 3) f) (h1 : IntsAt 0 w A1 (m * 3) g) :
    Calls Try.prog 4 #[dgV L A0 n c0 r, dgV M A1 m c1 s] w fun e w' => e = .returned (.bool true) ∧ Below w.heap.size w w' := by
  have hP := (Box.new w 32 #[.int .i64 L, .slice A0 n c0, .int .i64 r]).alloc (.cells #[.int .i64 M, .slice A1 m c1, .int .i64 s] 32)
  have hQ := Box.new (w.alloc (.cells #[.int .i64 L, .slice A0 n c0, .int .i64 r] 32)) 32 #[.int .i64 M, .slice A1 m c1, .int .i64 s]
  rw [show (w.alloc (.cells #[.int .i64 L, .slice A0 n c0, .int .i64 r] 32)).heap.size = w.heap.size + 1 by simp] at hQ
  have hB : Below w.heap.size w ((w.alloc (.cells #[.int .i64 L, .slice A0 n c0, .int .i64 r] 32)).alloc (.cells #[.int .i64 M, .slice A1 m c1, .int .i64 s] 32)) := ((Below.refl _ w).alloc (Nat.le_refl _) _).alloc (by simp) _
  obtain ⟨q0, q1, q2⟩ := hP.trio
  obtain ⟨u0, u1, u2⟩ := hQ.trio
  have CZ1 : Hid (∀ W, _) := Lib.hid fun W => szDg_any L r A0 n c0 1048576 W hn (by omega) (by omega)
  have CZ2 : Hid (∀ (l : Int) W, 0 ≤ l → l ≤ 1048576 → _) := Lib.hid fun l W a b => szDg_any M s A1 m c1 l W hm a b
  have H := Lib.hid h0
  have K := Lib.hid h1
  clear h0 h1
  go_enter Try.func4, Try.ntmps4
  go_upto_region 8 with (first
    | (go_at_call 19
       with_reducible refine (CZ1.out _).mono ?_
       rintro e w1 ⟨⟨r1, rfl, hr1⟩, hb⟩
       have hl1 : r1 ≤ 1048576 := hr1.out.1
       clear q0 q1 q2 u0 u1 u2
       replace hP := hP.below hb hP.lt
       replace hQ := hQ.below hb hQ.lt
       replace hB := hB.trans (hb.mono hB.size)
       clear hb
       obtain ⟨q0, q1, q2⟩ := hP.trio
       obtain ⟨u0, u1, u2⟩ := hQ.trio)
    | (go_at_call 19
       with_reducible refine (CZ2.out _ _ (by omega) (by omega)).mono ?_
       rintro e w2 ⟨⟨r2, rfl, hr2⟩, hb⟩
       clear q0 q1 q2 u0 u1 u2
       replace hP := hP.below hb hP.lt
       replace hQ := hQ.below hb hQ.lt
       replace hB := hB.trans (hb.mono hB.size)
       clear hb
       obtain ⟨q0, q1, q2⟩ := hP.trio
       obtain ⟨u0, u1, u2⟩ := hQ.trio))
  all_goals first
    | (go_ret
       exact ⟨rfl, hB⟩)
    | skip
  have SP : Hid (n ≤ 1048576) := Lib.hid (hr1.out.2 (by omega))
  have SQ : Hid (m ≤ 1048576) := Lib.hid (hr2.out.2 (by omega))
  have CP : Hid (∀ W, Below w.heap.size w W → _) := Lib.hid fun W hW => toDg_any 0 L r A0 n c0 f W SP.out (H.out.below hW (Nat.le_refl _))
  have CQ : Hid (∀ W, Below w.heap.size w W → _) := Lib.hid fun W hW => toDg_any 0 M s A1 m c1 g W SQ.out (K.out.below hW (Nat.le_refl _))
  have CS : Hid (∀ (l1 l2 g1 k1 : Nat) (W : World), IntsAt l1 W (some ⟨g1, 0, none⟩) (n * 3) f → IntsAt l2 W (some ⟨k1, 0, none⟩) (m * 3) g → _) := Lib.hid fun l1 l2 g1 k1 W x y => specEqDg_any l1 l2 L r M s (some ⟨g1, 0, none⟩) (some ⟨k1, 0, none⟩) n m n m f g W SP.out SQ.out x y
  have CM : Hid (∀ (l1 l2 g1 k1 : Nat) (W : World), IntsAt l1 W (some ⟨g1, 0, none⟩) (n * 3) f → IntsAt l2 W (some ⟨k1, 0, none⟩) (m * 3) g → _) := Lib.hid fun l1 l2 g1 k1 W x y => implEqDg_any l1 l2 L r M s (some ⟨g1, 0, none⟩) (some ⟨k1, 0, none⟩) n m n m f g W SP.out SQ.out x y
  have CE : Hid (∀ (l1 l2 g1 k1 : Nat) (W : World), IntsAt l1 W (some ⟨g1, 0, none⟩) (n * 3) f → IntsAt l2 W (some ⟨k1, 0, none⟩) (n * 3) f → _) := Lib.hid fun l1 l2 g1 k1 W x y => eqDg_any l1 l2 L r (some ⟨g1, 0, none⟩) (some ⟨k1, 0, none⟩) n n n f W SP.out x y
  have CF : Hid (∀ (l1 l2 g1 k1 : Nat) (W : World), IntsAt l1 W (some ⟨g1, 0, none⟩) (m * 3) g → IntsAt l2 W (some ⟨k1, 0, none⟩) (m * 3) g → _) := Lib.hid fun l1 l2 g1 k1 W x y => eqDg_any l1 l2 M s (some ⟨g1, 0, none⟩) (some ⟨k1, 0, none⟩) m m m g W SQ.out x y
  clear hl1 hr1 hr2 H K CZ1 CZ2 SP SQ
  go_cut [6] (fun s6 wx => ∃ z : Bool, s6 = .bool z ∧ Hid (z = true ↔ DgEq L r n f M s m g) ∧ Below w2.heap.size w2 wx)
  case first =>
    have HB := Lib.hid hB
    have hpl := hP.lt
    have hql := hQ.lt
    clear hB hP hQ
    go_region_held3 (fun w' => w'.cell? ⟨w.heap.size, 0, none⟩ = some (.int .i64 L) ∧ w'.cell? ⟨w.heap.size, 1, none⟩ = some (.slice A0 n c0) ∧ w'.cell? ⟨w.heap.size, 2, none⟩ = some (.int .i64 r) ∧ w'.cell? ⟨w.heap.size + 1, 0, none⟩ = some (.int .i64 M) ∧ w'.cell? ⟨w.heap.size + 1, 1, none⟩ = some (.slice A1 m c1) ∧ w'.cell? ⟨w.heap.size + 1, 2, none⟩ = some (.int .i64 s) ∧ Below w2.heap.size w2 w')
      ((suffices hBB : Below w2.heap.size w2 _ from ⟨(hBB.cell hpl).trans q0, (hBB.cell hpl).trans q1, (hBB.cell hpl).trans q2, (hBB.cell hql).trans u0, (hBB.cell hql).trans u1, (hBB.cell hql).trans u2, hBB⟩; first | exact (Below.refl _ w2).drew | exact heldE3 (by assumption) | (refine stepB (heldE3 (by assumption)) ?_; assumption)))
      (first
        | (go_at_call_of 21 (Value.agg #[.int .i64 L, .slice A0 n c0, .int .i64 r]); refine (CP.out _ (HB.out.trans ((heldE3 (by assumption)).mono HB.out.size))).mono ?_; rintro e w3 ⟨⟨g1, rfl, hg⟩, hb2⟩; have Hg := Lib.hid hg; clear hg)
        | (go_at_call_of 21 (Value.agg #[.int .i64 M, .slice A1 m c1, .int .i64 s]); refine (CQ.out _ (HB.out.trans ((heldE3 (by assumption)).mono HB.out.size))).mono ?_; rintro e w4 ⟨⟨k1, rfl, hk⟩, hb3⟩; have Hk := Lib.hid hk; clear hk)
        | (go_at_call 20; refine (CS.out _ _ _ _ _ (by first | exact Hg.out | exact Hg.out.below hb3 (Nat.le_refl _)) (by first | exact Hk.out | exact Hk.out.below hb2 (Nat.le_refl _))).mono ?_; rintro e w5 ⟨z, rfl, hz, hb4⟩))
    all_goals go_wp2_with fail
    all_goals go_meet
    all_goals exact ⟨z, rfl, hz, heldE3 (by assumption)⟩
  obtain ⟨z, rfl, hz, hbc⟩ := hcut
  clear q0 q1 q2 u0 u1 u2
  replace hP := hP.below hbc hP.lt
  replace hQ := hQ.below hbc hQ.lt
  replace hB := hB.trans (hbc.mono hB.size)
  clear hbc
  obtain ⟨q0, q1, q2⟩ := hP.trio
  obtain ⟨u0, u1, u2⟩ := hQ.trio
  go_upto_region 10 with (first
    | (go_at_call 21
       with_reducible refine (CP.out _ hB).mono ?_
       rintro e w5 ⟨⟨g1, rfl, hg⟩, hb⟩
       clear q0 q1 q2 u0 u1 u2
       have hX := Box.new w5 24 #[.int .i64 L, .slice (some ⟨g1, 0, none⟩) n n, .int .i64 r]
       have hal := (Below.refl w5.heap.size w5).alloc (Nat.le_refl _) (.cells #[.int .i64 L, .slice (some ⟨g1, 0, none⟩) n n, .int .i64 r] 24)
       replace hP := (hP.below hb hP.lt).alloc (.cells #[.int .i64 L, .slice (some ⟨g1, 0, none⟩) n n, .int .i64 r] 24)
       replace hQ := (hQ.below hb hQ.lt).alloc (.cells #[.int .i64 L, .slice (some ⟨g1, 0, none⟩) n n, .int .i64 r] 24)
       replace hg := hg.below hal (Nat.le_refl _)
       replace hB := hB.trans (hb.mono hB.size)
       replace hB := hB.trans (hal.mono hB.size)
       clear hb hal
       obtain ⟨q0, q1, q2⟩ := hP.trio
       obtain ⟨u0, u1, u2⟩ := hQ.trio
       obtain ⟨x0, x1, x2⟩ := hX.trio))
  go_upto_region 11 with (first
    | (go_at_call 21
       with_reducible refine (CQ.out _ hB).mono ?_
       rintro e w6 ⟨⟨k1, rfl, hk⟩, hb⟩
       clear q0 q1 q2 u0 u1 u2 x0 x1 x2
       have hY := Box.new w6 24 #[.int .i64 M, .slice (some ⟨k1, 0, none⟩) m m, .int .i64 s]
       have hal := (Below.refl w6.heap.size w6).alloc (Nat.le_refl _) (.cells #[.int .i64 M, .slice (some ⟨k1, 0, none⟩) m m, .int .i64 s] 24)
       replace hP := (hP.below hb hP.lt).alloc (.cells #[.int .i64 M, .slice (some ⟨k1, 0, none⟩) m m, .int .i64 s] 24)
       replace hQ := (hQ.below hb hQ.lt).alloc (.cells #[.int .i64 M, .slice (some ⟨k1, 0, none⟩) m m, .int .i64 s] 24)
       replace hX := (hX.below hb hX.lt).alloc (.cells #[.int .i64 M, .slice (some ⟨k1, 0, none⟩) m m, .int .i64 s] 24)
       replace hg := (hg.below hb (Nat.le_refl _)).below hal (Nat.le_refl _)
       replace hk := hk.below hal (Nat.le_refl _)
       replace hB := hB.trans (hb.mono hB.size)
       replace hB := hB.trans (hal.mono hB.size)
       clear hb hal
       obtain ⟨q0, q1, q2⟩ := hP.trio
       obtain ⟨u0, u1, u2⟩ := hQ.trio
       obtain ⟨x0, x1, x2⟩ := hX.trio
       obtain ⟨y0, y1, y2⟩ := hY.trio))
  go_upto_region 14 with (first
    | (go_at_call 22
       refine (CM.out _ _ _ _ _ hg hk).mono ?_
       rintro e w7 ⟨z', rfl, hz', hb⟩
       obtain rfl : z' = z := Bool.eq_iff_iff.2 (hz'.out.trans hz.out.symm)
       have nr : (z' != z') = false := by cases z' <;> rfl
       clear q0 q1 q2 u0 u1 u2 x0 x1 x2 y0 y1 y2
       replace hP := hP.below hb hP.lt
       replace hQ := hQ.below hb hQ.lt
       replace hX := hX.below hb hX.lt
       replace hY := hY.below hb hY.lt
       replace hg := hg.below hb (Nat.le_refl _)
       replace hk := hk.below hb (Nat.le_refl _)
       replace hB := hB.trans (hb.mono hB.size)
       clear hb
       obtain ⟨q0, q1, q2⟩ := hP.trio
       obtain ⟨u0, u1, u2⟩ := hQ.trio
       obtain ⟨x0, x1, x2⟩ := hX.trio
       obtain ⟨y0, y1, y2⟩ := hY.trio))
  go_cut [39] (fun v wx => v = .bool false ∧ Below w7.heap.size w7 wx)
  case first =>
    have HB := Lib.hid hB
    have HG := Lib.hid hg
    have hxl := hX.lt
    have hbl := hP.lt
    clear hB hP hQ hX hY hg hk
    go_region_held3 (fun w' => w'.cell? ⟨w5.heap.size, 0, none⟩ = some (.int .i64 L) ∧ w'.cell? ⟨w5.heap.size, 1, none⟩ = some (.slice (some ⟨g1, 0, none⟩) n n) ∧ w'.cell? ⟨w5.heap.size, 2, none⟩ = some (.int .i64 r) ∧ w'.cell? ⟨w.heap.size, 0, none⟩ = some (.int .i64 L) ∧ w'.cell? ⟨w.heap.size, 1, none⟩ = some (.slice A0 n c0) ∧ w'.cell? ⟨w.heap.size, 2, none⟩ = some (.int .i64 r) ∧ Below w7.heap.size w7 w')
      ((suffices hBB : Below w7.heap.size w7 _ from ⟨(hBB.cell hxl).trans x0, (hBB.cell hxl).trans x1, (hBB.cell hxl).trans x2, (hBB.cell hbl).trans q0, (hBB.cell hbl).trans q1, (hBB.cell hbl).trans q2, hBB⟩; first | exact (Below.refl _ w7).drew | exact heldE3 (by assumption) | (refine stepB (heldE3 (by assumption)) ?_; assumption)))
      (first
        | (go_at_call 21; refine (CP.out _ (HB.out.trans ((heldE3 (by assumption)).mono HB.out.size))).mono ?_; rintro e w9 ⟨⟨m1, rfl, hm⟩, hb7⟩; have Hm := Lib.hid hm; clear hm)
        | (go_at_call 16; refine (CE.out _ _ _ _ _ (HG.out.below (heldE3 (by assumption)) (Nat.le_refl _)) Hm.out).mono ?_; rintro e w10 ⟨rfl, hb8⟩))
    all_goals go_wp2_with fail
    all_goals go_meet
    all_goals exact ⟨rfl, heldE3 (by assumption)⟩
  obtain ⟨rfl, hb⟩ := hcut
  clear q0 q1 q2 u0 u1 u2 x0 x1 x2 y0 y1 y2
  replace hX := hX.below hb hX.lt
  replace hY := hY.below hb hY.lt
  replace hk := hk.below hb (Nat.le_refl _)
  replace hP := hP.below hb hP.lt
  replace hQ := hQ.below hb hQ.lt
  replace hB := hB.trans (hb.mono hB.size)
  clear hb hg
  obtain ⟨u0, u1, u2⟩ := hQ.trio
  obtain ⟨y0, y1, y2⟩ := hY.trio
  rename World => w8
  go_upto_region 16 with fail
  go_cut [44] (fun v wx => v = .bool false ∧ Below w8.heap.size w8 wx)
  case first =>
    have HB := Lib.hid hB
    have HG := Lib.hid hk
    have hxl := hY.lt
    have hbl := hQ.lt
    clear hB hP hQ hX hY hk
    go_region_held3 (fun w' => w'.cell? ⟨w6.heap.size, 0, none⟩ = some (.int .i64 M) ∧ w'.cell? ⟨w6.heap.size, 1, none⟩ = some (.slice (some ⟨k1, 0, none⟩) m m) ∧ w'.cell? ⟨w6.heap.size, 2, none⟩ = some (.int .i64 s) ∧ w'.cell? ⟨w.heap.size + 1, 0, none⟩ = some (.int .i64 M) ∧ w'.cell? ⟨w.heap.size + 1, 1, none⟩ = some (.slice A1 m c1) ∧ w'.cell? ⟨w.heap.size + 1, 2, none⟩ = some (.int .i64 s) ∧ Below w8.heap.size w8 w')
      ((suffices hBB : Below w8.heap.size w8 _ from ⟨(hBB.cell hxl).trans y0, (hBB.cell hxl).trans y1, (hBB.cell hxl).trans y2, (hBB.cell hbl).trans u0, (hBB.cell hbl).trans u1, (hBB.cell hbl).trans u2, hBB⟩; first | exact (Below.refl _ w8).drew | exact heldE3 (by assumption) | (refine stepB (heldE3 (by assumption)) ?_; assumption)))
      (first
        | (go_at_call 21; refine (CQ.out _ (HB.out.trans ((heldE3 (by assumption)).mono HB.out.size))).mono ?_; rintro e w9 ⟨⟨m1, rfl, hm⟩, hb7⟩; have Hm := Lib.hid hm; clear hm)
        | (go_at_call 16; refine (CF.out _ _ _ _ _ (HG.out.below (heldE3 (by assumption)) (Nat.le_refl _)) Hm.out).mono ?_; rintro e w10 ⟨rfl, hb8⟩))
    all_goals go_wp2_with fail
    all_goals go_meet
    all_goals exact ⟨rfl, heldE3 (by assumption)⟩
  obtain ⟨rfl, hb⟩ := hcut
  go_wp2_with fail
  go_ret
  exact ⟨rfl, hB.trans (hb.mono hB.size)⟩

end Go.Proofs.Ytmobcahfalaaeaa
