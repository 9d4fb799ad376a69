/-
  The law on CallGraph. (Written by gen_pglaw3.py.)
-/
import Derived.Test.YtdeilceakhgjlaaPgLaw
import Derived.Test.YtdeilceakhgjlaaPgMk3
import Derived.Test.YtdeilceakhgjlaaPgCg9
namespace Go.Proofs.Ytdeilceakhgjlaa
open Go.RowKit Num

set_option maxRecDepth 100000 in
set_option maxHeartbeats 12800000 in
theorem lawCGr_any (lo : Nat) (P : Prg) (Av Ax As Ap Ab : Option Addr) (cv cx cs cp cb : Nat) (w : World) (fs : P.fits) (h : PgAt lo w Av Ax As Ap Ab P) :
    Calls Try.prog 4 #[.agg #[.slice Av P.nv cv, .slice Ax P.nx cx, .slice As P.ns cs, .slice Ap P.np cp, .slice Ab P.nb cb, .int .i64 P.fuel]] w fun e w' => e = .returned (.bool true) ∧ Below w.heap.size w w' := by
  have hP := Box.new w 28 #[.slice Av P.nv cv, .slice Ax P.nx cx, .slice As P.ns cs, .slice Ap P.np cp, .slice Ab P.nb cb, .int .i64 P.fuel]
  have hB := (Below.refl w.heap.size w).alloc (Nat.le_refl _) (.cells #[.slice Av P.nv cv, .slice Ax P.nx cx, .slice As P.ns cs, .slice Ap P.np cp, .slice Ab P.nb cb, .int .i64 P.fuel] 28)
  obtain ⟨q0, q1, q2, q3, q4, q5, qf⟩ := hP.six
  have CZ : Hid (∀ W, Below w.heap.size w W → _) := Lib.hid fun W hW => szProgram_any lo P Av Ax As Ap Ab cv cx cs cp cb 1048576 W fs (h.below hW (Nat.le_refl _)) (by omega) (by omega)
  have H := Lib.hid h
  clear h fs
  go_enter Try.func4, Try.ntmps4
  go_upto_region 5 with (first
    | (go_at_call 7
       with_reducible refine (CZ.out _ hB).mono ?_
       rintro e w1 ⟨r1, rfl, hr1, hb⟩
       clear q0 q1 q2 q3 q4 q5 qf
       replace hP := hP.below hb hP.lt
       replace hB := hB.trans (hb.mono hB.size)
       clear hb
       obtain ⟨q0, q1, q2, q3, q4, q5, qf⟩ := hP.six))
  all_goals first
    | (go_ret
       exact ⟨rfl, hB⟩)
    | skip
  have SP : Hid P.small := Lib.hid (hr1.out.2.2 (by omega))
  have CP : Hid (∀ W, Below w.heap.size w W → _) := Lib.hid fun W hW => toPg_any lo P Av Ax As Ap Ab cv cx cs cp cb W SP.out (H.out.below hW (Nat.le_refl _))
  have CS : Hid (∀ (l : Nat) a1 a2 a3 a4 a5 (W : World), PgAt l W (some ⟨a1, 0, none⟩) (some ⟨a2, 0, none⟩) (some ⟨a3, 0, none⟩) (some ⟨a4, 0, none⟩) (some ⟨a5, 0, none⟩) P → _) := Lib.hid fun l a1 a2 a3 a4 a5 W x => specCG_any l P (some ⟨a1, 0, none⟩) (some ⟨a2, 0, none⟩) (some ⟨a3, 0, none⟩) (some ⟨a4, 0, none⟩) (some ⟨a5, 0, none⟩) P.nv P.nx P.ns P.np P.nb W SP.out (Nat.le_refl _) (Nat.le_refl _) x
  have CM : Hid (∀ (l : Nat) a1 a2 a3 a4 a5 (W : World), PgAt l W (some ⟨a1, 0, none⟩) (some ⟨a2, 0, none⟩) (some ⟨a3, 0, none⟩) (some ⟨a4, 0, none⟩) (some ⟨a5, 0, none⟩) P → _) := Lib.hid fun l a1 a2 a3 a4 a5 W x => implCG_any l P (some ⟨a1, 0, none⟩) (some ⟨a2, 0, none⟩) (some ⟨a3, 0, none⟩) (some ⟨a4, 0, none⟩) (some ⟨a5, 0, none⟩) P.nv P.nx P.ns P.np P.nb W SP.out x
  have CE : Hid (∀ (l1 l2 : Nat) a1 a2 a3 a4 a5 b1 b2 b3 b4 b5 (W : World), PgAt l1 W (some ⟨a1, 0, none⟩) (some ⟨a2, 0, none⟩) (some ⟨a3, 0, none⟩) (some ⟨a4, 0, none⟩) (some ⟨a5, 0, none⟩) P → PgAt l2 W (some ⟨b1, 0, none⟩) (some ⟨b2, 0, none⟩) (some ⟨b3, 0, none⟩) (some ⟨b4, 0, none⟩) (some ⟨b5, 0, none⟩) P → _) := Lib.hid fun l1 l2 a1 a2 a3 a4 a5 b1 b2 b3 b4 b5 W x y => eqProgram_any l1 l2 P (some ⟨a1, 0, none⟩) (some ⟨a2, 0, none⟩) (some ⟨a3, 0, none⟩) (some ⟨a4, 0, none⟩) (some ⟨a5, 0, none⟩) (some ⟨b1, 0, none⟩) (some ⟨b2, 0, none⟩) (some ⟨b3, 0, none⟩) (some ⟨b4, 0, none⟩) (some ⟨b5, 0, none⟩) P.nv P.nx P.ns P.np P.nb P.nv P.nx P.ns P.np P.nb W SP.out x y
  have hN : (cgN P) ≤ 1000 := cgN_le P
  have hL := cgL_le P
  generalize cgN P = N at CS CM hN
  generalize cgL P = R at CS CM hL
  generalize cgB P = ok at CS CM
  have n3 : (ok != ok) = false := by cases ok <;> rfl
  obtain ⟨M, hM⟩ : ∃ M, M = stL R N := ⟨_, rfl⟩
  have hM1 := (stL_in hL N).1
  rw [← hM] at hM1
  have dM : decide (M < 0) = false := decide_eq_false (by omega)
  have nM : (M != M) = false := bne_self_eq_false _
  have CI : Hid (∀ (l1 l2 : Nat) (A B : Value) (W : World), GrN l1 W A N R → GrN l2 W B N R → _) := Lib.hid fun l1 l2 A B W x y => eqIntSS_any l1 l2 A B N R W hN hL x y
  have CO : Hid (∀ (l : Nat) (A : Value) (W : World), 0 < l → GrN l W A N R → _) := Lib.hid fun l A W hz x => markIntSS_any l A N R W hN hL hz x
  have CH : Hid (∀ (l : Nat) (A : Value) (W : World), GrH l W A N R → _) := Lib.hid fun l A W x => heldIntSS_any l A N R W hN hL x
  rw [← hM] at CO CH
  clear H CZ hr1 hM hM1
  go_upto_region 6 with (first
    | (go_at_call 9
       with_reducible refine (CP.out _ hB).mono ?_
       rintro e w2 ⟨⟨k1, k2, k3, k4, k5, rfl, hk⟩, hb⟩
       clear q0 q1 q2 q3 q4 q5 qf
       replace hP := hP.below hb hP.lt
       replace hB := hB.trans (hb.mono hB.size)
       clear hb
       obtain ⟨q0, q1, q2, q3, q4, q5, qf⟩ := hP.six)
    | (go_at_call 12
       refine (CS.out _ _ _ _ _ _ _ hk).mono ?_
       rintro e W0 ⟨v6, rfl, hw0, hb⟩
       clear q0 q1 q2 q3 q4 q5 qf hk
       replace hP := hP.below hb hP.lt
       replace hB := hB.trans (hb.mono hB.size)
       have HW0 := Lib.hid hw0
       clear hb hw0
       obtain ⟨q0, q1, q2, q3, q4, q5, qf⟩ := hP.six))
  go_upto_region 7 with (first
    | (go_at_call 9
       with_reducible refine (CP.out _ hB).mono ?_
       rintro e w3 ⟨⟨g1, g2, g3, g4, g5, rfl, hg⟩, hb⟩
       clear q0 q1 q2 q3 q4 q5 qf
       have hL := hP.lt
       have hX := Box.new w3 37 #[.slice (some ⟨g1, 0, none⟩) P.nv P.nv, .slice (some ⟨g2, 0, none⟩) P.nx P.nx, .slice (some ⟨g3, 0, none⟩) P.ns P.ns, .slice (some ⟨g4, 0, none⟩) P.np P.np, .slice (some ⟨g5, 0, none⟩) P.nb P.nb, .int .i64 P.fuel]
       have hal := (Below.refl w3.heap.size w3).alloc (Nat.le_refl _) (.cells #[.slice (some ⟨g1, 0, none⟩) P.nv P.nv, .slice (some ⟨g2, 0, none⟩) P.nx P.nx, .slice (some ⟨g3, 0, none⟩) P.ns P.ns, .slice (some ⟨g4, 0, none⟩) P.np P.np, .slice (some ⟨g5, 0, none⟩) P.nb P.nb, .int .i64 P.fuel] 37)
       have HSH := Lib.hid (hg.sh (by omega) (Nat.le_refl w3.heap.size))
       have hB0 := hb
       have hl3 := hb.size
       have hB3 := hal
       replace hP := hP.below hb hP.lt
       replace hB := hB.trans (hb.mono hB.size)
       replace hP := hP.below hal hP.lt
       replace hg := hg.below hal (Nat.le_refl _)
       replace hB := hB.trans (hal.mono hB.size)
       replace hB0 := hB0.trans (hal.mono hB0.size)
       clear hb hal
       obtain ⟨q0, q1, q2, q3, q4, q5, qf⟩ := hP.six
       obtain ⟨x0, x1, x2, x3, x4, x5, xf⟩ := hX.six))
  go_upto_region 10 with (first
    | (go_at_call 13
       refine (CM.out _ _ _ _ _ _ _ hg).mono ?_
       rintro e w4 ⟨v9, rfl, hg0, hb⟩
       obtain ⟨l9, hl9a, hl9b, hg0⟩ : ∃ l, w3.heap.size ≤ l ∧ l ≤ w4.heap.size ∧ GrN l w4 v9 N R := ⟨_, hB3.size, hb.size, hg0⟩
       clear x0 x1 x2 x3 x4 x5 xf q0 q1 q2 q3 q4 q5 qf
       replace hP := hP.below hb hP.lt
       replace hX := hX.below hb hX.lt
       replace hg := hg.below hb (Nat.le_refl _)
       replace hB := hB.trans (hb.mono hB.size)
       replace hB0 := hB0.trans (hb.mono hB0.size)
       replace hB3 := hB3.trans (hb.mono hB3.size)

       clear hb
       obtain ⟨q0, q1, q2, q3, q4, q5, qf⟩ := hP.six
       obtain ⟨x0, x1, x2, x3, x4, x5, xf⟩ := hX.six)
    | (go_at_call 14
       refine (CI.out _ _ _ _ _ hg0 (HW0.out.below hB0 (Nat.le_refl _))).mono ?_
       rintro e w4 ⟨rfl, hb⟩
       replace hl9b := Nat.le_trans hl9b hb.size
       clear x0 x1 x2 x3 x4 x5 xf q0 q1 q2 q3 q4 q5 qf
       replace hP := hP.below hb hP.lt
       replace hX := hX.below hb hX.lt
       replace hg := hg.below hb (Nat.le_refl _)
       replace hB := hB.trans (hb.mono hB.size)
       replace hB0 := hB0.trans (hb.mono hB0.size)
       replace hB3 := hB3.trans (hb.mono hB3.size)
       replace hg0 := hg0.below hb (Nat.le_refl _)

       clear hb
       obtain ⟨q0, q1, q2, q3, q4, q5, qf⟩ := hP.six
       obtain ⟨x0, x1, x2, x3, x4, x5, xf⟩ := hX.six))
  have HG0 := Lib.hid hg0
  clear hg0


  go_cut [45] (fun s wx => s = .bool false ∧ Below w4.heap.size w4 wx)
  case first =>
    have HB := Lib.hid hB
    have HG := Lib.hid hg
    have hxl := hX.lt
    have hbl := hP.lt
    clear hB hP hX hg hB0 hB3
    go_region_held3 (fun w' => w'.cell? ⟨w3.heap.size, 0, none⟩ = some (.slice (some ⟨g1, 0, none⟩) P.nv P.nv) ∧ w'.cell? ⟨w3.heap.size, 1, none⟩ = some (.slice (some ⟨g2, 0, none⟩) P.nx P.nx) ∧ w'.cell? ⟨w3.heap.size, 2, none⟩ = some (.slice (some ⟨g3, 0, none⟩) P.ns P.ns) ∧ w'.cell? ⟨w3.heap.size, 3, none⟩ = some (.slice (some ⟨g4, 0, none⟩) P.np P.np) ∧ w'.cell? ⟨w3.heap.size, 4, none⟩ = some (.slice (some ⟨g5, 0, none⟩) P.nb P.nb) ∧ w'.cell? ⟨w3.heap.size, 5, none⟩ = some (.int .i64 P.fuel) ∧ w'.cell? ⟨w.heap.size, 0, none⟩ = some (.slice Av P.nv cv) ∧ w'.cell? ⟨w.heap.size, 1, none⟩ = some (.slice Ax P.nx cx) ∧ w'.cell? ⟨w.heap.size, 2, none⟩ = some (.slice As P.ns cs) ∧ w'.cell? ⟨w.heap.size, 3, none⟩ = some (.slice Ap P.np cp) ∧ w'.cell? ⟨w.heap.size, 4, none⟩ = some (.slice Ab P.nb cb) ∧ w'.cell? ⟨w.heap.size, 5, none⟩ = some (.int .i64 P.fuel) ∧ Below w4.heap.size w4 w')
      ((suffices hBB : Below w4.heap.size w4 _ from ⟨(hBB.cell hxl).trans x0, (hBB.cell hxl).trans x1, (hBB.cell hxl).trans x2, (hBB.cell hxl).trans x3, (hBB.cell hxl).trans x4, (hBB.cell hxl).trans x5, (hBB.cell hbl).trans q0, (hBB.cell hbl).trans q1, (hBB.cell hbl).trans q2, (hBB.cell hbl).trans q3, (hBB.cell hbl).trans q4, (hBB.cell hbl).trans q5, hBB⟩; first | exact (Below.refl _ w4).drew | exact held12p (by assumption) | (refine stepB (held12p (by assumption)) ?_; assumption)))
      (first
        | (go_at_call 9; refine (CP.out _ (HB.out.trans ((held12p (by assumption)).mono HB.out.size))).mono ?_; rintro e w7 ⟨⟨m1, m2, m3, m4, m5, rfl, hm⟩, hb7⟩; have Hm := Lib.hid hm; clear hm)
        | (go_at_call 11; refine (CE.out _ _ _ _ _ _ _ _ _ _ _ _ _ (HG.out.below (held12p (by assumption)) (Nat.le_refl _)) Hm.out).mono ?_; rintro e w8 ⟨rfl, hb8⟩))
    all_goals go_wp2_with fail
    all_goals go_meet
    all_goals exact ⟨rfl, held12p (by assumption)⟩
  obtain ⟨rfl, hb⟩ := hcut
  rename World => wc
  clear x0 x1 x2 x3 x4 x5 xf q0 q1 q2 q3 q4 q5 qf hg
  replace hP := hP.below hb hP.lt
  replace hX := hX.below hb hX.lt
  replace hB := hB.trans (hb.mono hB.size)
  replace hB0 := hB0.trans (hb.mono hB0.size)
  replace hB3 := hB3.trans (hb.mono hB3.size)
  replace HG0 := Lib.hid (HG0.out.below hb (Nat.le_refl _))
  replace hl9b := Nat.le_trans hl9b hb.size

  clear hb
  obtain ⟨q0, q1, q2, q3, q4, q5, qf⟩ := hP.six
  obtain ⟨x0, x1, x2, x3, x4, x5, xf⟩ := hX.six
  have hz3 := hB3.size
  go_wp2_with (first
    | (go_at_call 15
       refine (markProgram_any W0.heap.size w3.heap.size P (some ⟨g1, 0, none⟩) (some ⟨g2, 0, none⟩) (some ⟨g3, 0, none⟩) (some ⟨g4, 0, none⟩) (some ⟨g5, 0, none⟩) P.nv P.nx P.ns P.np P.nb _ SP.out (by omega) (HSH.out.marks (.of_below hB3))).mono ?_
       rintro e w6 ⟨k1, rfl, hk1, hm⟩
       have dk : decide (k1 < 0) = false := decide_eq_false (by omega)
       have hs6 := hB0.size


       clear x0 x1 x2 x3 x4 x5 xf q0 q1 q2 q3 q4 q5 qf hX
       replace hP := hm.box hP (.inl hL)
       replace hB := hB.trans (hm.toBelow (Nat.le_of_lt hL) hs6)
       replace hB0 := hB0.trans (hm.toBelow (Nat.le_refl _) hs6)
       replace HG0 := Lib.hid (HG0.out.keep (hm.keeps.mono (by omega)))
       replace hl9b := Nat.le_trans hl9b hm.size
       clear hm hk1 hB3
       obtain ⟨q0, q1, q2, q3, q4, q5, qf⟩ := hP.six)
    | (go_at_call 16
       refine (CO.out _ _ _ (by omega) HG0.out).mono ?_
       rintro e w8 ⟨rfl, hg8, hm⟩
       clear q0 q1 q2 q3 q4 q5 qf
       replace hP := hm.box hP (.inl (by omega))
       replace hB := hB.trans (hm.toBelow (by omega) (by omega))
       replace hB0 := hB0.trans (hm.toBelow (by omega) (by omega))
       have HG8 := Lib.hid hg8
       clear hg8 hm HG0
       obtain ⟨q0, q1, q2, q3, q4, q5, qf⟩ := hP.six)
    | (go_at_call 17
       refine (CH.out _ _ _ HG8.out).mono ?_
       rintro e w9 ⟨rfl, rfl⟩)
    | (go_at_call 9
       with_reducible refine (CP.out _ hB).mono ?_
       rintro e w10 ⟨⟨h1, h2, h3, h4, h5, rfl, hk⟩, hb⟩
       clear q0 q1 q2 q3 q4 q5 qf
       replace hP := hP.below hb hP.lt
       replace hB := hB.trans (hb.mono hB.size)
       replace hB0 := hB0.trans (hb.mono hB0.size)
       replace HG8 := Lib.hid (HG8.out.below hb (Nat.le_refl _))
       clear hb
       obtain ⟨q0, q1, q2, q3, q4, q5, qf⟩ := hP.six)
    | (go_at_call 13
       refine (CM.out _ _ _ _ _ _ _ hk).mono ?_
       rintro e w11 ⟨v14, rfl, hh0, hb⟩
       clear q0 q1 q2 q3 q4 q5 qf hk
       replace hP := hP.below hb hP.lt
       replace hB := hB.trans (hb.mono hB.size)
       replace hB0 := hB0.trans (hb.mono hB0.size)
       replace HG8 := Lib.hid (HG8.out.below hb (Nat.le_refl _))
       clear hb
       obtain ⟨q0, q1, q2, q3, q4, q5, qf⟩ := hP.six)
    | (go_at_call 14
       refine (CI.out _ _ _ _ _ hh0 (HW0.out.below hB0 (Nat.le_refl _))).mono ?_
       rintro e w12 ⟨rfl, hb⟩
       clear q0 q1 q2 q3 q4 q5 qf
       replace hP := hP.below hb hP.lt
       replace hB := hB.trans (hb.mono hB.size)
       replace hB0 := hB0.trans (hb.mono hB0.size)
       replace HG8 := Lib.hid (HG8.out.below hb (Nat.le_refl _))
       clear hb hh0
       obtain ⟨q0, q1, q2, q3, q4, q5, qf⟩ := hP.six)
    | (go_at_call 14
       refine (CI.out _ _ _ _ _ HG0.out (HW0.out.below hB0 (Nat.le_refl _))).mono ?_
       rintro e w7 ⟨rfl, hb⟩
       clear q0 q1 q2 q3 q4 q5 qf
       replace hl9b := Nat.le_trans hl9b hb.size
       replace hP := hP.below hb hP.lt
       replace hB := hB.trans (hb.mono hB.size)
       replace hB0 := hB0.trans (hb.mono hB0.size)
       replace HG0 := Lib.hid (HG0.out.below hb (Nat.le_refl _))
       clear hb
       obtain ⟨q0, q1, q2, q3, q4, q5, qf⟩ := hP.six))
  go_ret
  exact ⟨rfl, hB⟩

end Go.Proofs.Ytdeilceakhgjlaa
