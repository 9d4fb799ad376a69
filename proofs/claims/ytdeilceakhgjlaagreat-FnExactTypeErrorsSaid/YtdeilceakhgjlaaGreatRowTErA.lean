/-
  Several texts in one: LawTEr, RowTEr.
-/
import Derived.Test.YtdeilceakhgjlaaGreatPgLaw
import Derived.Test.YtdeilceakhgjlaaGreatPgMk3
import Derived.Test.YtdeilceakhgjlaaGreatPgTeB
import Derived.Test.YtdeilceakhgjlaaGreatRows
import Derived.Test.YtdeilceakhgjlaaGreatPgRead
import Derived.WalkKit
import Derived.Lib.LaidTab
import Derived.Stop.LaidErr
/-
  The law on TypeErrors. (Written by gen_pgte.py.)
-/
namespace Go.Proofs.YtdeilceakhgjlaaGreat
open Go.RowKit Num

set_option maxRecDepth 100000 in
set_option maxHeartbeats 12800000 in
theorem lawTEr_any (lo : Nat) (P : Prg) (Av Ax As Ap Ab : Option Addr) (cv cx cs cp cb : Nat) (w : World) (fs : P.fits) (h : PgAt lo w Av Ax As Ap Ab P) :
    Calls Tryz.prog 3 #[.agg #[.slice Av P.nv cv, .slice Ax P.nx cx, .slice As P.ns cs, .slice Ap P.np cp, .slice Ab P.nb cb, .int .i64 P.fuel]] w fun e w' => e = .returned (.bool true) ∧ Below w.heap.size w w' := by
  have hP := Box.new w 28 #[.slice Av P.nv cv, .slice Ax P.nx cx, .slice As P.ns cs, .slice Ap P.np cp, .slice Ab P.nb cb, .int .i64 P.fuel]
  have hB := (Below.refl w.heap.size w).alloc (Nat.le_refl _) (.cells #[.slice Av P.nv cv, .slice Ax P.nx cx, .slice As P.ns cs, .slice Ap P.np cp, .slice Ab P.nb cb, .int .i64 P.fuel] 28)
  obtain ⟨q0, q1, q2, q3, q4, q5, qf⟩ := hP.six
  have CZ : Hid (∀ W, Below w.heap.size w W → _) := Lib.hid fun W hW => szProgram_any lo P Av Ax As Ap Ab cv cx cs cp cb 1048576 W fs (h.below hW (Nat.le_refl _)) (by omega) (by omega)
  have H := Lib.hid h
  clear h fs
  go_enter Tryz.func3, Tryz.ntmps3
  go_upto_region 5 with (first
    | (go_at_call 13
       with_reducible refine (CZ.out _ hB).mono ?_
       rintro e w1 ⟨r1, rfl, hr1, hb⟩
       clear q0 q1 q2 q3 q4 q5 qf
       replace hP := hP.below hb hP.lt
       replace hB := hB.trans (hb.mono hB.size)
       clear hb
       obtain ⟨q0, q1, q2, q3, q4, q5, qf⟩ := hP.six))
  all_goals first
    | (go_ret
       exact ⟨rfl, hB⟩)
    | skip
  have SP : Hid P.small := Lib.hid (hr1.out.2.2 (by omega))
  have CP : Hid (∀ W, Below w.heap.size w W → _) := Lib.hid fun W hW => toPg_any lo P Av Ax As Ap Ab cv cx cs cp cb W SP.out (H.out.below hW (Nat.le_refl _))
  have CS : Hid (∀ (l : Nat) a1 a2 a3 a4 a5 (W : World), PgAt l W (some ⟨a1, 0, none⟩) (some ⟨a2, 0, none⟩) (some ⟨a3, 0, none⟩) (some ⟨a4, 0, none⟩) (some ⟨a5, 0, none⟩) P → _) := Lib.hid fun l a1 a2 a3 a4 a5 W x => specTe_any l P (some ⟨a1, 0, none⟩) (some ⟨a2, 0, none⟩) (some ⟨a3, 0, none⟩) (some ⟨a4, 0, none⟩) (some ⟨a5, 0, none⟩) P.nv P.nx P.ns P.np P.nb W SP.out (Nat.le_refl _) (Nat.le_refl _) x
  have CM : Hid (∀ (l : Nat) a1 a2 a3 a4 a5 (W : World), PgAt l W (some ⟨a1, 0, none⟩) (some ⟨a2, 0, none⟩) (some ⟨a3, 0, none⟩) (some ⟨a4, 0, none⟩) (some ⟨a5, 0, none⟩) P → _) := Lib.hid fun l a1 a2 a3 a4 a5 W x => implTe_any l P (some ⟨a1, 0, none⟩) (some ⟨a2, 0, none⟩) (some ⟨a3, 0, none⟩) (some ⟨a4, 0, none⟩) (some ⟨a5, 0, none⟩) P.nv P.nx P.ns P.np P.nb W SP.out (Nat.le_refl _) x
  have CE : Hid (∀ (l1 l2 : Nat) a1 a2 a3 a4 a5 b1 b2 b3 b4 b5 (W : World), PgAt l1 W (some ⟨a1, 0, none⟩) (some ⟨a2, 0, none⟩) (some ⟨a3, 0, none⟩) (some ⟨a4, 0, none⟩) (some ⟨a5, 0, none⟩) P → PgAt l2 W (some ⟨b1, 0, none⟩) (some ⟨b2, 0, none⟩) (some ⟨b3, 0, none⟩) (some ⟨b4, 0, none⟩) (some ⟨b5, 0, none⟩) P → _) := Lib.hid fun l1 l2 a1 a2 a3 a4 a5 b1 b2 b3 b4 b5 W x y => eqProgram_any l1 l2 P (some ⟨a1, 0, none⟩) (some ⟨a2, 0, none⟩) (some ⟨a3, 0, none⟩) (some ⟨a4, 0, none⟩) (some ⟨a5, 0, none⟩) (some ⟨b1, 0, none⟩) (some ⟨b2, 0, none⟩) (some ⟨b3, 0, none⟩) (some ⟨b4, 0, none⟩) (some ⟨b5, 0, none⟩) P.nv P.nx P.ns P.np P.nb P.nv P.nx P.ns P.np P.nb W SP.out x y
  have hN : (teN P) ≤ 1000 := teN_le P
  generalize (teN P) = N at CS CM hN
  generalize (teF P) = R at CS CM
  generalize (teK P) = ok at CS CM
  have n3 : (ok != ok) = false := by cases ok <;> rfl
  obtain ⟨M, hM⟩ : ∃ M, M = 1 + ((N * 3 : Nat) : Int) := ⟨_, rfl⟩
  have dM : decide (M < 0) = false := decide_eq_false (by omega)
  have nM : (M != M) = false := bne_self_eq_false _
  have CI : Hid (∀ (l1 l2 : Nat) (A B : Option Addr) (c d : Nat) (W : World), IntsAt l1 W A (N * 3) R → IntsAt l2 W B (N * 3) R → _) := Lib.hid fun l1 l2 A B c d W x y => eqTES_any l1 l2 A B N c d R W (Nat.le_trans hN (by decide)) x y
  have CO : Hid (∀ (l : Nat) (A : Option Addr) (c : Nat) (W : World), 0 < l → IntsAt l W A (N * 3) R → _) := Lib.hid fun l A c W hz x => markTES_any l A N c R W hN hz x
  have CH : Hid (∀ (l : Nat) (A : Option Addr) (c : Nat) (W : World), IntsAt l W A (N * 3) (fun j => 1 + (j : Int)) → _) := Lib.hid fun l A c W x => heldTES_any l A N c W hN x
  rw [← hM] at CO CH
  clear H CZ hr1 hM
  go_upto_region 6 with (first
    | (go_at_call 15
       with_reducible refine (CP.out _ hB).mono ?_
       rintro e w2 ⟨⟨k1, k2, k3, k4, k5, rfl, hk⟩, hb⟩
       clear q0 q1 q2 q3 q4 q5 qf
       replace hP := hP.below hb hP.lt
       replace hB := hB.trans (hb.mono hB.size)
       clear hb
       obtain ⟨q0, q1, q2, q3, q4, q5, qf⟩ := hP.six)
    | (go_at_call 14
       refine (CS.out _ _ _ _ _ _ _ hk).mono ?_
       rintro e W0 ⟨A6, c6, rfl, hw0, hb⟩
       clear q0 q1 q2 q3 q4 q5 qf hk
       replace hP := hP.below hb hP.lt
       replace hB := hB.trans (hb.mono hB.size)
       have HW0 := Lib.hid hw0
       clear hb hw0
       obtain ⟨q0, q1, q2, q3, q4, q5, qf⟩ := hP.six))
  go_upto_region 7 with (first
    | (go_at_call 15
       with_reducible refine (CP.out _ hB).mono ?_
       rintro e w3 ⟨⟨g1, g2, g3, g4, g5, rfl, hg⟩, hb⟩
       clear q0 q1 q2 q3 q4 q5 qf
       have hL := hP.lt
       have hX := Box.new w3 38 #[.slice (some ⟨g1, 0, none⟩) P.nv P.nv, .slice (some ⟨g2, 0, none⟩) P.nx P.nx, .slice (some ⟨g3, 0, none⟩) P.ns P.ns, .slice (some ⟨g4, 0, none⟩) P.np P.np, .slice (some ⟨g5, 0, none⟩) P.nb P.nb, .int .i64 P.fuel]
       have hal := (Below.refl w3.heap.size w3).alloc (Nat.le_refl _) (.cells #[.slice (some ⟨g1, 0, none⟩) P.nv P.nv, .slice (some ⟨g2, 0, none⟩) P.nx P.nx, .slice (some ⟨g3, 0, none⟩) P.ns P.ns, .slice (some ⟨g4, 0, none⟩) P.np P.np, .slice (some ⟨g5, 0, none⟩) P.nb P.nb, .int .i64 P.fuel] 38)
       have HSH := Lib.hid (hg.sh (by omega) (Nat.le_refl w3.heap.size))
       have hB0 := hb
       have hl3 := hb.size
       have hB3 := hal
       replace hP := hP.below hb hP.lt
       replace hB := hB.trans (hb.mono hB.size)
       replace hP := hP.below hal hP.lt
       replace hg := hg.below hal (Nat.le_refl _)
       replace hB := hB.trans (hal.mono hB.size)
       replace hB0 := hB0.trans (hal.mono hB0.size)
       clear hb hal
       obtain ⟨q0, q1, q2, q3, q4, q5, qf⟩ := hP.six
       obtain ⟨x0, x1, x2, x3, x4, x5, xf⟩ := hX.six))
  go_upto_region 10 with (first
    | (go_at_call 16
       refine (CM.out _ _ _ _ _ _ _ hg).mono ?_
       rintro e w4 ⟨A9, c9, rfl, hg0, hb⟩
       obtain ⟨l9, hl9a, hl9b, hg0⟩ : ∃ l, w3.heap.size ≤ l ∧ l ≤ w4.heap.size ∧ IntsAt l w4 A9 (N * 3) R := ⟨_, hB3.size, hb.size, hg0⟩
       clear x0 x1 x2 x3 x4 x5 xf q0 q1 q2 q3 q4 q5 qf
       replace hP := hP.below hb hP.lt
       replace hX := hX.below hb hX.lt
       replace hg := hg.below hb (Nat.le_refl _)
       replace hB := hB.trans (hb.mono hB.size)
       replace hB0 := hB0.trans (hb.mono hB0.size)
       replace hB3 := hB3.trans (hb.mono hB3.size)

       clear hb
       obtain ⟨q0, q1, q2, q3, q4, q5, qf⟩ := hP.six
       obtain ⟨x0, x1, x2, x3, x4, x5, xf⟩ := hX.six)
    | (go_at_call 17
       refine (CI.out _ _ _ _ _ _ _ hg0 (HW0.out.below hB0 (Nat.le_refl _))).mono ?_
       rintro e w4 ⟨rfl, hb⟩
       replace hl9b := Nat.le_trans hl9b hb.size
       clear x0 x1 x2 x3 x4 x5 xf q0 q1 q2 q3 q4 q5 qf
       replace hP := hP.below hb hP.lt
       replace hX := hX.below hb hX.lt
       replace hg := hg.below hb (Nat.le_refl _)
       replace hB := hB.trans (hb.mono hB.size)
       replace hB0 := hB0.trans (hb.mono hB0.size)
       replace hB3 := hB3.trans (hb.mono hB3.size)
       replace hg0 := hg0.below hb (Nat.le_refl _)

       clear hb
       obtain ⟨q0, q1, q2, q3, q4, q5, qf⟩ := hP.six
       obtain ⟨x0, x1, x2, x3, x4, x5, xf⟩ := hX.six))
  have HG0 := Lib.hid hg0
  clear hg0


  go_cut [45] (fun s wx => s = .bool false ∧ Below w4.heap.size w4 wx)
  case first =>
    have HB := Lib.hid hB
    have HG := Lib.hid hg
    have hxl := hX.lt
    have hbl := hP.lt
    clear hB hP hX hg hB0 hB3
    go_region_held3 (fun w' => w'.cell? ⟨w3.heap.size, 0, none⟩ = some (.slice (some ⟨g1, 0, none⟩) P.nv P.nv) ∧ w'.cell? ⟨w3.heap.size, 1, none⟩ = some (.slice (some ⟨g2, 0, none⟩) P.nx P.nx) ∧ w'.cell? ⟨w3.heap.size, 2, none⟩ = some (.slice (some ⟨g3, 0, none⟩) P.ns P.ns) ∧ w'.cell? ⟨w3.heap.size, 3, none⟩ = some (.slice (some ⟨g4, 0, none⟩) P.np P.np) ∧ w'.cell? ⟨w3.heap.size, 4, none⟩ = some (.slice (some ⟨g5, 0, none⟩) P.nb P.nb) ∧ w'.cell? ⟨w3.heap.size, 5, none⟩ = some (.int .i64 P.fuel) ∧ w'.cell? ⟨w.heap.size, 0, none⟩ = some (.slice Av P.nv cv) ∧ w'.cell? ⟨w.heap.size, 1, none⟩ = some (.slice Ax P.nx cx) ∧ w'.cell? ⟨w.heap.size, 2, none⟩ = some (.slice As P.ns cs) ∧ w'.cell? ⟨w.heap.size, 3, none⟩ = some (.slice Ap P.np cp) ∧ w'.cell? ⟨w.heap.size, 4, none⟩ = some (.slice Ab P.nb cb) ∧ w'.cell? ⟨w.heap.size, 5, none⟩ = some (.int .i64 P.fuel) ∧ Below w4.heap.size w4 w')
      ((suffices hBB : Below w4.heap.size w4 _ from ⟨(hBB.cell hxl).trans x0, (hBB.cell hxl).trans x1, (hBB.cell hxl).trans x2, (hBB.cell hxl).trans x3, (hBB.cell hxl).trans x4, (hBB.cell hxl).trans x5, (hBB.cell hbl).trans q0, (hBB.cell hbl).trans q1, (hBB.cell hbl).trans q2, (hBB.cell hbl).trans q3, (hBB.cell hbl).trans q4, (hBB.cell hbl).trans q5, hBB⟩; first | exact (Below.refl _ w4).drew | exact held12p (by assumption) | (refine stepB (held12p (by assumption)) ?_; assumption)))
      (first
        | (go_at_call 15; refine (CP.out _ (HB.out.trans ((held12p (by assumption)).mono HB.out.size))).mono ?_; rintro e w7 ⟨⟨m1, m2, m3, m4, m5, rfl, hm⟩, hb7⟩; have Hm := Lib.hid hm; clear hm)
        | (go_at_call 18; refine (CE.out _ _ _ _ _ _ _ _ _ _ _ _ _ (HG.out.below (held12p (by assumption)) (Nat.le_refl _)) Hm.out).mono ?_; rintro e w8 ⟨rfl, hb8⟩))
    all_goals go_wp2_with fail
    all_goals go_meet
    all_goals exact ⟨rfl, held12p (by assumption)⟩
  obtain ⟨rfl, hb⟩ := hcut
  rename World => wc
  clear x0 x1 x2 x3 x4 x5 xf q0 q1 q2 q3 q4 q5 qf hg
  replace hP := hP.below hb hP.lt
  replace hX := hX.below hb hX.lt
  replace hB := hB.trans (hb.mono hB.size)
  replace hB0 := hB0.trans (hb.mono hB0.size)
  replace hB3 := hB3.trans (hb.mono hB3.size)
  replace HG0 := Lib.hid (HG0.out.below hb (Nat.le_refl _))
  replace hl9b := Nat.le_trans hl9b hb.size

  clear hb
  obtain ⟨q0, q1, q2, q3, q4, q5, qf⟩ := hP.six
  obtain ⟨x0, x1, x2, x3, x4, x5, xf⟩ := hX.six
  have hz3 := hB3.size
  go_wp2_with (first
    | (go_at_call 19
       refine (markProgram_any W0.heap.size w3.heap.size P (some ⟨g1, 0, none⟩) (some ⟨g2, 0, none⟩) (some ⟨g3, 0, none⟩) (some ⟨g4, 0, none⟩) (some ⟨g5, 0, none⟩) P.nv P.nx P.ns P.np P.nb _ SP.out (by omega) (HSH.out.marks (.of_below hB3))).mono ?_
       rintro e w6 ⟨k1, rfl, hk1, hm⟩
       have dk : decide (k1 < 0) = false := decide_eq_false (by omega)
       have hs6 := hB0.size


       clear x0 x1 x2 x3 x4 x5 xf q0 q1 q2 q3 q4 q5 qf hX
       replace hP := hm.box hP (.inl hL)
       replace hB := hB.trans (hm.toBelow (Nat.le_of_lt hL) hs6)
       replace hB0 := hB0.trans (hm.toBelow (Nat.le_refl _) hs6)
       replace HG0 := Lib.hid (HG0.out.keep (hm.keeps.mono (by omega)))
       replace hl9b := Nat.le_trans hl9b hm.size
       clear hm hk1 hB3
       obtain ⟨q0, q1, q2, q3, q4, q5, qf⟩ := hP.six)
    | (go_at_call 20
       refine (CO.out _ _ _ _ (by omega) HG0.out).mono ?_
       rintro e w8 ⟨rfl, hg8, hm⟩
       clear q0 q1 q2 q3 q4 q5 qf
       replace hP := hm.box hP (.inl (by omega))
       replace hB := hB.trans (hm.toBelow (by omega) (by omega))
       replace hB0 := hB0.trans (hm.toBelow (by omega) (by omega))
       have HG8 := Lib.hid hg8
       clear hg8 hm HG0
       obtain ⟨q0, q1, q2, q3, q4, q5, qf⟩ := hP.six)
    | (go_at_call 21
       refine (CH.out _ _ _ _ HG8.out).mono ?_
       rintro e w9 ⟨rfl, rfl⟩)
    | (go_at_call 15
       with_reducible refine (CP.out _ hB).mono ?_
       rintro e w10 ⟨⟨h1, h2, h3, h4, h5, rfl, hk⟩, hb⟩
       clear q0 q1 q2 q3 q4 q5 qf
       replace hP := hP.below hb hP.lt
       replace hB := hB.trans (hb.mono hB.size)
       replace hB0 := hB0.trans (hb.mono hB0.size)
       replace HG8 := Lib.hid (HG8.out.below hb (Nat.le_refl _))
       clear hb
       obtain ⟨q0, q1, q2, q3, q4, q5, qf⟩ := hP.six)
    | (go_at_call 16
       refine (CM.out _ _ _ _ _ _ _ hk).mono ?_
       rintro e w11 ⟨A14, c14, rfl, hh0, hb⟩
       clear q0 q1 q2 q3 q4 q5 qf hk
       replace hP := hP.below hb hP.lt
       replace hB := hB.trans (hb.mono hB.size)
       replace hB0 := hB0.trans (hb.mono hB0.size)
       replace HG8 := Lib.hid (HG8.out.below hb (Nat.le_refl _))
       clear hb
       obtain ⟨q0, q1, q2, q3, q4, q5, qf⟩ := hP.six)
    | (go_at_call 17
       refine (CI.out _ _ _ _ _ _ _ hh0 (HW0.out.below hB0 (Nat.le_refl _))).mono ?_
       rintro e w12 ⟨rfl, hb⟩
       clear q0 q1 q2 q3 q4 q5 qf
       replace hP := hP.below hb hP.lt
       replace hB := hB.trans (hb.mono hB.size)
       replace hB0 := hB0.trans (hb.mono hB0.size)
       replace HG8 := Lib.hid (HG8.out.below hb (Nat.le_refl _))
       clear hb hh0
       obtain ⟨q0, q1, q2, q3, q4, q5, qf⟩ := hP.six)
    | (go_at_call 17
       refine (CI.out _ _ _ _ _ _ _ HG0.out (HW0.out.below hB0 (Nat.le_refl _))).mono ?_
       rintro e w7 ⟨rfl, hb⟩
       clear q0 q1 q2 q3 q4 q5 qf
       replace hl9b := Nat.le_trans hl9b hb.size
       replace hP := hP.below hb hP.lt
       replace hB := hB.trans (hb.mono hB.size)
       replace hB0 := hB0.trans (hb.mono hB0.size)
       replace HG0 := Lib.hid (HG0.out.below hb (Nat.le_refl _))
       clear hb
       obtain ⟨q0, q1, q2, q3, q4, q5, qf⟩ := hP.six))
  go_ret
  exact ⟨rfl, hB⟩

end Go.Proofs.YtdeilceakhgjlaaGreat
/-
  PROVED: the law on TypeErrors returns true for every program, valid or not, in every world in which the call can begin, and the argument reads behind the call as before.
  Conditions: none.
-/
namespace Go.Proofs.YtdeilceakhgjlaaGreat.fnExactTypeErrors
open Go.ChangeShapes Go.WideShapes Go.ChangeAt Go.RowKit Go.ChangeMaps

theorem own : ownKnob Tryz.prog.godebug = none := by kernel_rfl

set_option maxRecDepth 100000 in
/-- FOR EVERY ARGUMENT AND EVERY WORLD. -/
theorem contract (H : Type) (enc : TypeId × Value → H) (W : World) (base : Nat) (args : Array Value) (ds gs : List (DataW H)) (before : List MemPlace)
    (hval : ∀ (j : Nat) t v, Tryz.f3.params[j]? = some t → args[j]? = some v → Value.okWide Tryz.prog W .any base t v)
    (hW : DataW.Whole enc Tryz.prog Tryz.f3.params.toList Rows.fnExactTypeErrorsSpec.vars false W args.toList ds gs before) :
    Calls Tryz.prog 3 args W fun e W' => ∃ v, e = .returned v ∧ Rows.fnExactTypeErrorsSpec.post enc Tryz.prog Tryz.f3 false true false false W args v W' := by
  have hW' := hW
  obtain ⟨p, q, hA0, hV, rfl, hfz, hnd⟩ := hW
  have hA : DataW.TrodAll enc Tryz.prog W 0 (fun _ => true) true Tryz.f3.params.toList args.toList ds p := hA0
  rw [Tryz.params3] at hA hval
  obtain ⟨v0, d0, rfl, rfl, h0⟩ := trodAll_one hA
  obtain ⟨rfl, rfl⟩ := trodVars_none hV
  obtain ⟨P0, Av0, Ax0, As0, Ap0, Ab0, cv0, cx0, cs0, cp0, cb0, rfl, hf0, hp0⟩ := prog_of (hval 0 28 v0 rfl rfl) h0
  clear hA0
  have hlt0 : ∀ r ∈ p, r.block < W.heap.size := fun r hp => hW'.lt r (by simp [hp])
  refine (lawTEr_any 0 P0 Av0 Ax0 As0 Ap0 Ab0 cv0 cx0 cs0 cp0 cb0 W hf0 hp0).mono fun e W' ⟨he, hB⟩ => ?_
  subst he
  refine ⟨_, rfl, _, _, _, [], p ++ [], [], hW', trodAll_cons_mk (p := []) (shut_bool Tryz.underlying4 _) trodAll_mk0, (trodAll_cons_mk (WideElems.Trod_stays (by kernel_rfl) (by kernel_rfl) (of_decide_eq_true (by kernel_rfl)) h0 (fun p hp => hB.same (hlt0 p hp)) (fun p hp => decide_eq_true (hlt0 p hp))) trodAll_mk0), rfl, hB.frame _, fun h => by cases h⟩

/-- A WORLD FOR THE WITNESS: the settled one. -/
noncomputable def laidWorld (os : Os) : World := World.holding Tryz.prog os ⟨#[], #[], []⟩
theorem laid_met (os : Os) : laidMet Tryz.prog Rows.fnExactTypeErrorsRow.laid ((laidWorld os).forCall (fun _ _ => 0) ⟨#[], #[.agg #[.slice none 0 0, .slice none 0 0, .slice none 0 0, .slice none 0 0, .slice none 0 0, .int .i64 0]], []⟩).memory :=
  laidMet_of_run' 8 (by kernel_rfl) (by kernel_rfl)
theorem reads (os : Os) {H : Type} (enc : TypeId × Value → H) : ∃ places, DataW.whole enc Tryz.prog ((laidWorld os).forCall (fun _ _ => 0) ⟨#[], #[.agg #[.slice none 0 0, .slice none 0 0, .slice none 0 0, .slice none 0 0, .slice none 0 0, .int .i64 0]], []⟩).memory Tryz.f3.params.toList Rows.fnExactTypeErrorsSpec.vars false #[(.agg #[.slice none 0 0, .slice none 0 0, .slice none 0 0, .slice none 0 0, .slice none 0 0, .int .i64 0] : Value)].toList 8 = some ([.agg [.nil, .nil, .nil, .nil, .nil, .lit (.int .i64 0)]], [], places) :=
  ⟨[], by kernel_rfl⟩

set_option maxRecDepth 100000 in
theorem lifted (os : Os) (started : os.Started) (H : Type) (enc : TypeId × Value → H) (F : Stop.Interp) :
    ReturnsInHanded {} Tryz.checked os 3 .any ((OpenSpec.ofChange Rows.fnExactTypeErrorsSpec).preRow enc Tryz.prog Tryz.f3 Rows.fnExactTypeErrorsRow.domain false Rows.fnExactTypeErrorsRow.laid) (((OpenSpec.ofChange Rows.fnExactTypeErrorsSpec).at F).post enc Tryz.prog Tryz.f3 false true false false) := by
  obtain ⟨places, hx⟩ := reads os enc
  refine returnsInHanded_of_row (C := Tryz.checked) (s := OpenSpec.ofChange Rows.fnExactTypeErrorsSpec) own started (by kernel_rfl) Tryz.func3
    (witness_row_at (enc := enc) (C := Tryz.checked) false (laidWorld os) #[.agg #[.slice none 0 0, .slice none 0 0, .slice none 0 0, .slice none 0 0, .slice none 0 0, .int .i64 0]] rfl (by kernel_rfl) (by kernel_rfl) (by kernel_rfl)
      (OpenSpec.preRow_of_cond 8 hx (by kernel_rfl) (fun k hk => by cases hk) (by kernel_rfl) (laid_met os))) ?_
  intro W base args ds gs before hval hW _ _ _ _ _ _
  exact contract H enc W base args ds gs before hval hW

end Go.Proofs.YtdeilceakhgjlaaGreat.fnExactTypeErrors
