/-
  The law on FormatExpr. (Written by gen_pglaw.py.)
-/
import Derived.Test.YtoaiejodbmkbjaaGreatDoorPgLaw
import Derived.Test.YtoaiejodbmkbjaaGreatDoorFxH
namespace Go.Proofs.YtoaiejodbmkbjaaGreatDoor
open Go.RowKit Num

set_option maxRecDepth 100000 in
set_option maxHeartbeats 6400000 in
theorem lawFxE_any (lo : Nat) (P : Prg) (Av Ax As Ap Ab : Option Addr) (cv cx cs cp cb : Nat) (m : Int) (w : World) (fs : P.fits) (h : PgAt lo w Av Ax As Ap Ab P) :
    Calls Tryz.prog 3 #[.agg #[.slice Av P.nv cv, .slice Ax P.nx cx, .slice As P.ns cs, .slice Ap P.np cp, .slice Ab P.nb cb, .int .i64 P.fuel], .int .i64 m] w fun e w' => e = .returned (.bool true) ∧ Below w.heap.size w w' := by
  have hP := Box.new w 28 #[.slice Av P.nv cv, .slice Ax P.nx cx, .slice As P.ns cs, .slice Ap P.np cp, .slice Ab P.nb cb, .int .i64 P.fuel]
  have hB := (Below.refl w.heap.size w).alloc (Nat.le_refl _) (.cells #[.slice Av P.nv cv, .slice Ax P.nx cx, .slice As P.ns cs, .slice Ap P.np cp, .slice Ab P.nb cb, .int .i64 P.fuel] 28)
  obtain ⟨q0, q1, q2, q3, q4, q5, qf⟩ := hP.six
  have CZ : Hid (∀ W, Below w.heap.size w W → _) := Lib.hid fun W hW => szProgram_any lo P Av Ax As Ap Ab cv cx cs cp cb 1048576 W fs (h.below hW (Nat.le_refl _)) (by omega) (by omega)
  have H := Lib.hid h
  clear h fs
  go_enter Tryz.func3, Tryz.ntmps3
  go_upto_region 5 with (first
    | (go_at_call 4
       with_reducible refine (CZ.out _ hB).mono ?_
       rintro e w1 ⟨r1, rfl, hr1, hb⟩
       clear q0 q1 q2 q3 q4 q5 qf
       replace hP := hP.below hb hP.lt
       replace hB := hB.trans (hb.mono hB.size)
       clear hb
       obtain ⟨q0, q1, q2, q3, q4, q5, qf⟩ := hP.six))
  all_goals first
    | (go_ret
       exact ⟨rfl, hB⟩)
    | skip
  have SP : Hid P.small := Lib.hid (hr1.out.2.2 (by omega))
  have CP : Hid (∀ W, Below w.heap.size w W → _) := Lib.hid fun W hW => toPg_any lo P Av Ax As Ap Ab cv cx cs cp cb W SP.out (H.out.below hW (Nat.le_refl _))
  have CS : Hid (∀ (l : Nat) a1 a2 a3 a4 a5 (W : World), PgAt l W (some ⟨a1, 0, none⟩) (some ⟨a2, 0, none⟩) (some ⟨a3, 0, none⟩) (some ⟨a4, 0, none⟩) (some ⟨a5, 0, none⟩) P → _) := Lib.hid fun l a1 a2 a3 a4 a5 W x => specFx_any l P (some ⟨a1, 0, none⟩) (some ⟨a2, 0, none⟩) (some ⟨a3, 0, none⟩) (some ⟨a4, 0, none⟩) (some ⟨a5, 0, none⟩) P.nv P.nx P.ns P.np P.nb m W SP.out (Nat.le_refl _) (Nat.le_refl _) x
  have CM : Hid (∀ (l : Nat) a1 a2 a3 a4 a5 (W : World), PgAt l W (some ⟨a1, 0, none⟩) (some ⟨a2, 0, none⟩) (some ⟨a3, 0, none⟩) (some ⟨a4, 0, none⟩) (some ⟨a5, 0, none⟩) P → _) := Lib.hid fun l a1 a2 a3 a4 a5 W x => implFx_any l P (some ⟨a1, 0, none⟩) (some ⟨a2, 0, none⟩) (some ⟨a3, 0, none⟩) (some ⟨a4, 0, none⟩) (some ⟨a5, 0, none⟩) P.nv P.nx P.ns P.np P.nb m W SP.out (Nat.le_refl _) x
  have CE : Hid (∀ (l1 l2 : Nat) a1 a2 a3 a4 a5 b1 b2 b3 b4 b5 (W : World), PgAt l1 W (some ⟨a1, 0, none⟩) (some ⟨a2, 0, none⟩) (some ⟨a3, 0, none⟩) (some ⟨a4, 0, none⟩) (some ⟨a5, 0, none⟩) P → PgAt l2 W (some ⟨b1, 0, none⟩) (some ⟨b2, 0, none⟩) (some ⟨b3, 0, none⟩) (some ⟨b4, 0, none⟩) (some ⟨b5, 0, none⟩) P → _) := Lib.hid fun l1 l2 a1 a2 a3 a4 a5 b1 b2 b3 b4 b5 W x y => eqProgram_any l1 l2 P (some ⟨a1, 0, none⟩) (some ⟨a2, 0, none⟩) (some ⟨a3, 0, none⟩) (some ⟨a4, 0, none⟩) (some ⟨a5, 0, none⟩) (some ⟨b1, 0, none⟩) (some ⟨b2, 0, none⟩) (some ⟨b3, 0, none⟩) (some ⟨b4, 0, none⟩) (some ⟨b5, 0, none⟩) P.nv P.nx P.ns P.np P.nb P.nv P.nx P.ns P.np P.nb W SP.out x y
  have hcc : ∀ b : Bool, (!b == b) = false := fun b => by cases b <;> rfl
  clear H CZ hr1
  go_upto_region 6 with (first
    | (go_at_call 6
       with_reducible refine (CP.out _ hB).mono ?_
       rintro e w2 ⟨⟨k1, k2, k3, k4, k5, rfl, hk⟩, hb⟩
       clear q0 q1 q2 q3 q4 q5 qf
       replace hP := hP.below hb hP.lt
       replace hB := hB.trans (hb.mono hB.size)
       clear hb
       obtain ⟨q0, q1, q2, q3, q4, q5, qf⟩ := hP.six)
    | (go_at_call 5
       refine (CS.out _ _ _ _ _ _ _ hk).mono ?_
       rintro e w2 ⟨rfl, hb⟩
       clear q0 q1 q2 q3 q4 q5 qf hk
       replace hP := hP.below hb hP.lt
       replace hB := hB.trans (hb.mono hB.size)
       clear hb
       obtain ⟨q0, q1, q2, q3, q4, q5, qf⟩ := hP.six))
  go_upto_region 7 with (first
    | (go_at_call 6
       with_reducible refine (CP.out _ hB).mono ?_
       rintro e w3 ⟨⟨g1, g2, g3, g4, g5, rfl, hg⟩, hb⟩
       clear q0 q1 q2 q3 q4 q5 qf
       have hX := Box.new w3 37 #[.slice (some ⟨g1, 0, none⟩) P.nv P.nv, .slice (some ⟨g2, 0, none⟩) P.nx P.nx, .slice (some ⟨g3, 0, none⟩) P.ns P.ns, .slice (some ⟨g4, 0, none⟩) P.np P.np, .slice (some ⟨g5, 0, none⟩) P.nb P.nb, .int .i64 P.fuel]
       have hal := (Below.refl w3.heap.size w3).alloc (Nat.le_refl _) (.cells #[.slice (some ⟨g1, 0, none⟩) P.nv P.nv, .slice (some ⟨g2, 0, none⟩) P.nx P.nx, .slice (some ⟨g3, 0, none⟩) P.ns P.ns, .slice (some ⟨g4, 0, none⟩) P.np P.np, .slice (some ⟨g5, 0, none⟩) P.nb P.nb, .int .i64 P.fuel] 37)
       replace hg := hg.below hal (Nat.le_refl _)
       replace hP := (hP.below hb hP.lt).alloc (.cells #[.slice (some ⟨g1, 0, none⟩) P.nv P.nv, .slice (some ⟨g2, 0, none⟩) P.nx P.nx, .slice (some ⟨g3, 0, none⟩) P.ns P.ns, .slice (some ⟨g4, 0, none⟩) P.np P.np, .slice (some ⟨g5, 0, none⟩) P.nb P.nb, .int .i64 P.fuel] 37)
       replace hB := (hB.trans (hb.mono hB.size)).trans (hal.mono (hB.trans (hb.mono hB.size)).size)
       clear hb hal
       obtain ⟨q0, q1, q2, q3, q4, q5, qf⟩ := hP.six
       obtain ⟨x0, x1, x2, x3, x4, x5, xf⟩ := hX.six))
  go_upto_region 10 with (first
    | (go_at_call 7
       refine (CM.out _ _ _ _ _ _ _ hg).mono ?_
       rintro e w4 ⟨rfl, hb⟩
       clear x0 x1 x2 x3 x4 x5 xf q0 q1 q2 q3 q4 q5 qf
       replace hX := hX.below hb hX.lt
       replace hg := hg.below hb (Nat.le_refl _)

       replace hP := hP.below hb hP.lt
       replace hB := hB.trans (hb.mono hB.size)
       clear hb
       have n3 : ((fxS P m).toList == (fxS P m).toList) = true := beq_self_eq_true _
       have n4 : (fxB P m != fxB P m) = false := by cases fxB P m <;> rfl
       obtain ⟨q0, q1, q2, q3, q4, q5, qf⟩ := hP.six
       obtain ⟨x0, x1, x2, x3, x4, x5, xf⟩ := hX.six))


  go_cut [43] (fun s wx => s = .bool false ∧ Below w4.heap.size w4 wx)
  case first =>
    have HB := Lib.hid hB
    have HG := Lib.hid hg
    have hxl := hX.lt
    have hbl := hP.lt
    clear hB hP hX hg
    go_region_held3 (fun w' => w'.cell? ⟨w3.heap.size, 0, none⟩ = some (.slice (some ⟨g1, 0, none⟩) P.nv P.nv) ∧ w'.cell? ⟨w3.heap.size, 1, none⟩ = some (.slice (some ⟨g2, 0, none⟩) P.nx P.nx) ∧ w'.cell? ⟨w3.heap.size, 2, none⟩ = some (.slice (some ⟨g3, 0, none⟩) P.ns P.ns) ∧ w'.cell? ⟨w3.heap.size, 3, none⟩ = some (.slice (some ⟨g4, 0, none⟩) P.np P.np) ∧ w'.cell? ⟨w3.heap.size, 4, none⟩ = some (.slice (some ⟨g5, 0, none⟩) P.nb P.nb) ∧ w'.cell? ⟨w3.heap.size, 5, none⟩ = some (.int .i64 P.fuel) ∧ w'.cell? ⟨w.heap.size, 0, none⟩ = some (.slice Av P.nv cv) ∧ w'.cell? ⟨w.heap.size, 1, none⟩ = some (.slice Ax P.nx cx) ∧ w'.cell? ⟨w.heap.size, 2, none⟩ = some (.slice As P.ns cs) ∧ w'.cell? ⟨w.heap.size, 3, none⟩ = some (.slice Ap P.np cp) ∧ w'.cell? ⟨w.heap.size, 4, none⟩ = some (.slice Ab P.nb cb) ∧ w'.cell? ⟨w.heap.size, 5, none⟩ = some (.int .i64 P.fuel) ∧ Below w4.heap.size w4 w')
      ((suffices hBB : Below w4.heap.size w4 _ from ⟨(hBB.cell hxl).trans x0, (hBB.cell hxl).trans x1, (hBB.cell hxl).trans x2, (hBB.cell hxl).trans x3, (hBB.cell hxl).trans x4, (hBB.cell hxl).trans x5, (hBB.cell hbl).trans q0, (hBB.cell hbl).trans q1, (hBB.cell hbl).trans q2, (hBB.cell hbl).trans q3, (hBB.cell hbl).trans q4, (hBB.cell hbl).trans q5, hBB⟩; first | exact (Below.refl _ w4).drew | exact held12p (by assumption) | (refine stepB (held12p (by assumption)) ?_; assumption)))
      (first
        | (go_at_call 6; refine (CP.out _ (HB.out.trans ((held12p (by assumption)).mono HB.out.size))).mono ?_; rintro e w7 ⟨⟨m1, m2, m3, m4, m5, rfl, hm⟩, hb7⟩; have Hm := Lib.hid hm; clear hm)
        | (go_at_call 8; refine (CE.out _ _ _ _ _ _ _ _ _ _ _ _ _ (HG.out.below (held12p (by assumption)) (Nat.le_refl _)) Hm.out).mono ?_; rintro e w8 ⟨rfl, hb8⟩))
    all_goals go_wp2_with fail
    all_goals go_meet
    all_goals exact ⟨rfl, held12p (by assumption)⟩
  obtain ⟨rfl, hb⟩ := hcut
  go_wp2_with fail
  go_ret
  exact ⟨rfl, hB.trans (hb.mono hB.size)⟩

end Go.Proofs.YtoaiejodbmkbjaaGreatDoor
