/-
  The law on EqualPrograms.
-/
import Derived.Test.YtmojckplaplpfaaPgSp
import Derived.Deep.RegionWith
namespace Go.Proofs.Ytmojckplaplpfaa
open Go.RowKit Num

theorem held12 {W W' : World} {p0 p1 p2 p3 p4 p5 p6 p7 p8 p9 p10 p11 : Prop} (h : p0 ∧ p1 ∧ p2 ∧ p3 ∧ p4 ∧ p5 ∧ p6 ∧ p7 ∧ p8 ∧ p9 ∧ p10 ∧ p11 ∧ Below W.heap.size W W') : Below W.heap.size W W' := h.2.2.2.2.2.2.2.2.2.2.2.2

theorem toProg_any (lo : Nat) (P : Prg) (Av Ax As Ap Ab : Option Addr) (cv cx cs cp cb : Nat) (w : World) (hs : P.small) (h : PgAt lo w Av Ax As Ap Ab P) :
    Calls Try.prog 12 #[.agg #[.slice Av P.nv cv, .slice Ax P.nx cx, .slice As P.ns cs, .slice Ap P.np cp, .slice Ab P.nb cb, .int .i64 P.fuel]] w fun e w' => (∃ g1 g2 g3 g4 g5, e = .returned (.agg #[.slice (some ⟨g1, 0, none⟩) P.nv P.nv, .slice (some ⟨g2, 0, none⟩) P.nx P.nx, .slice (some ⟨g3, 0, none⟩) P.ns P.ns, .slice (some ⟨g4, 0, none⟩) P.np P.np, .slice (some ⟨g5, 0, none⟩) P.nb P.nb, .int .i64 P.fuel]) ∧ PgAt w.heap.size w' (some ⟨g1, 0, none⟩) (some ⟨g2, 0, none⟩) (some ⟨g3, 0, none⟩) (some ⟨g4, 0, none⟩) (some ⟨g5, 0, none⟩) P) ∧ Below w.heap.size w w' :=
  (toProgram_any lo P Av Ax As Ap Ab cv cx cs cp cb w hs h).mono fun _ _ ⟨⟨g1, g2, g3, g4, g5, he, h1, h2, h3, h4, h5⟩, hb⟩ => ⟨⟨g1, g2, g3, g4, g5, he, ⟨h1, h2, h3, h4, h5⟩⟩, hb⟩

set_option maxRecDepth 100000 in
set_option maxHeartbeats 6400000 in
theorem lawEqPg_any (lo lo' : Nat) (P Q : Prg) (Av Ax As Ap Ab Bv Bx Bs Bp Bb : Option Addr) (cv cx cs cp cb dv dx ds dp db : Nat) (w : World) (fs : P.fits) (ft : Q.fits) (h : PgAt lo w Av Ax As Ap Ab P) (k : PgAt lo' w Bv Bx Bs Bp Bb Q) :
    Calls Try.prog 9 #[.agg #[.slice Av P.nv cv, .slice Ax P.nx cx, .slice As P.ns cs, .slice Ap P.np cp, .slice Ab P.nb cb, .int .i64 P.fuel], .agg #[.slice Bv Q.nv dv, .slice Bx Q.nx dx, .slice Bs Q.ns ds, .slice Bp Q.np dp, .slice Bb Q.nb db, .int .i64 Q.fuel]] w fun e w' => e = .returned (.bool true) ∧ Below w.heap.size w w' := by
  have hP := (Box.new w 28 #[.slice Av P.nv cv, .slice Ax P.nx cx, .slice As P.ns cs, .slice Ap P.np cp, .slice Ab P.nb cb, .int .i64 P.fuel]).alloc (.cells #[.slice Bv Q.nv dv, .slice Bx Q.nx dx, .slice Bs Q.ns ds, .slice Bp Q.np dp, .slice Bb Q.nb db, .int .i64 Q.fuel] 28)
  have hQ := Box.new (w.alloc (.cells #[.slice Av P.nv cv, .slice Ax P.nx cx, .slice As P.ns cs, .slice Ap P.np cp, .slice Ab P.nb cb, .int .i64 P.fuel] 28)) 28 #[.slice Bv Q.nv dv, .slice Bx Q.nx dx, .slice Bs Q.ns ds, .slice Bp Q.np dp, .slice Bb Q.nb db, .int .i64 Q.fuel]
  rw [show (w.alloc (.cells #[.slice Av P.nv cv, .slice Ax P.nx cx, .slice As P.ns cs, .slice Ap P.np cp, .slice Ab P.nb cb, .int .i64 P.fuel] 28)).heap.size = w.heap.size + 1 by simp] at hQ
  have hB : Below w.heap.size w ((w.alloc (.cells #[.slice Av P.nv cv, .slice Ax P.nx cx, .slice As P.ns cs, .slice Ap P.np cp, .slice Ab P.nb cb, .int .i64 P.fuel] 28)).alloc (.cells #[.slice Bv Q.nv dv, .slice Bx Q.nx dx, .slice Bs Q.ns ds, .slice Bp Q.np dp, .slice Bb Q.nb db, .int .i64 Q.fuel] 28)) := ((Below.refl _ w).alloc (Nat.le_refl _) _).alloc (by simp) _
  obtain ⟨q0, q1, q2, q3, q4, q5, qf⟩ := hP.six
  obtain ⟨u0, u1, u2, u3, u4, u5, uf⟩ := hQ.six
  have CZ1 : Hid (∀ W, Below w.heap.size w W → _) := Lib.hid fun W hW => szProgram_any lo P Av Ax As Ap Ab cv cx cs cp cb 1048576 W fs (h.below hW (Nat.le_refl _)) (by omega) (by omega)
  have CZ2 : Hid (∀ (l : Int) W, Below w.heap.size w W → 0 ≤ l → l ≤ 1048576 → _) := Lib.hid fun l W hW a b => szProgram_any lo' Q Bv Bx Bs Bp Bb dv dx ds dp db l W ft (k.below hW (Nat.le_refl _)) a b
  have H := Lib.hid h
  have K := Lib.hid k
  clear h k fs ft
  go_enter Try.func9, Try.ntmps9
  go_upto_region 8 with (first
    | (go_at_call 10
       with_reducible refine (CZ1.out _ hB).mono ?_
       rintro e w1 ⟨r1, rfl, hr1, hb⟩
       have hl1 : r1 ≤ 1048576 := (by have := hr1.out; omega)
       clear q0 q1 q2 q3 q4 q5 qf u0 u1 u2 u3 u4 u5 uf
       replace hP := hP.below hb hP.lt
       replace hQ := hQ.below hb hQ.lt
       replace hB := hB.trans (hb.mono hB.size)
       clear hb
       obtain ⟨q0, q1, q2, q3, q4, q5, qf⟩ := hP.six
       obtain ⟨u0, u1, u2, u3, u4, u5, uf⟩ := hQ.six)
    | (go_at_call 10
       with_reducible refine (CZ2.out _ _ hB (by omega) (by omega)).mono ?_
       rintro e w1 ⟨r2, rfl, hr2, hb⟩
       have hl2 : r2 ≤ 1048576 := (by have := hr2.out; omega)
       clear q0 q1 q2 q3 q4 q5 qf u0 u1 u2 u3 u4 u5 uf
       replace hP := hP.below hb hP.lt
       replace hQ := hQ.below hb hQ.lt
       replace hB := hB.trans (hb.mono hB.size)
       clear hb
       obtain ⟨q0, q1, q2, q3, q4, q5, qf⟩ := hP.six
       obtain ⟨u0, u1, u2, u3, u4, u5, uf⟩ := hQ.six))
  all_goals first
    | (go_ret
       exact ⟨rfl, hB⟩)
    | skip
  have SP : Hid P.small := Lib.hid (hr1.out.2.2 (by omega))
  have SQ : Hid Q.small := Lib.hid (hr2.out.2.2 (by omega))
  have CP : Hid (∀ W, Below w.heap.size w W → _) := Lib.hid fun W hW => toProg_any lo P Av Ax As Ap Ab cv cx cs cp cb W SP.out (H.out.below hW (Nat.le_refl _))
  have CQ : Hid (∀ W, Below w.heap.size w W → _) := Lib.hid fun W hW => toProg_any lo' Q Bv Bx Bs Bp Bb dv dx ds dp db W SQ.out (K.out.below hW (Nat.le_refl _))
  have CS : Hid (∀ (l1 l2 : Nat) a1 a2 a3 a4 a5 b1 b2 b3 b4 b5 (W : World), PgAt l1 W (some ⟨a1, 0, none⟩) (some ⟨a2, 0, none⟩) (some ⟨a3, 0, none⟩) (some ⟨a4, 0, none⟩) (some ⟨a5, 0, none⟩) P → PgAt l2 W (some ⟨b1, 0, none⟩) (some ⟨b2, 0, none⟩) (some ⟨b3, 0, none⟩) (some ⟨b4, 0, none⟩) (some ⟨b5, 0, none⟩) Q → _) := Lib.hid fun l1 l2 a1 a2 a3 a4 a5 b1 b2 b3 b4 b5 W x y => specEqPg_any l1 l2 P Q (some ⟨a1, 0, none⟩) (some ⟨a2, 0, none⟩) (some ⟨a3, 0, none⟩) (some ⟨a4, 0, none⟩) (some ⟨a5, 0, none⟩) (some ⟨b1, 0, none⟩) (some ⟨b2, 0, none⟩) (some ⟨b3, 0, none⟩) (some ⟨b4, 0, none⟩) (some ⟨b5, 0, none⟩) P.nv P.nx P.ns P.np P.nb Q.nv Q.nx Q.ns Q.np Q.nb W SP.out SQ.out x y
  have CM : Hid (∀ (l1 l2 : Nat) a1 a2 a3 a4 a5 b1 b2 b3 b4 b5 (W : World), PgAt l1 W (some ⟨a1, 0, none⟩) (some ⟨a2, 0, none⟩) (some ⟨a3, 0, none⟩) (some ⟨a4, 0, none⟩) (some ⟨a5, 0, none⟩) P → PgAt l2 W (some ⟨b1, 0, none⟩) (some ⟨b2, 0, none⟩) (some ⟨b3, 0, none⟩) (some ⟨b4, 0, none⟩) (some ⟨b5, 0, none⟩) Q → _) := Lib.hid fun l1 l2 a1 a2 a3 a4 a5 b1 b2 b3 b4 b5 W x y => eqPg_any l1 l2 P Q (some ⟨a1, 0, none⟩) (some ⟨a2, 0, none⟩) (some ⟨a3, 0, none⟩) (some ⟨a4, 0, none⟩) (some ⟨a5, 0, none⟩) (some ⟨b1, 0, none⟩) (some ⟨b2, 0, none⟩) (some ⟨b3, 0, none⟩) (some ⟨b4, 0, none⟩) (some ⟨b5, 0, none⟩) P.nv P.nx P.ns P.np P.nb Q.nv Q.nx Q.ns Q.np Q.nb W SP.out SQ.out x y
  have CE : Hid (∀ (l1 l2 : Nat) a1 a2 a3 a4 a5 b1 b2 b3 b4 b5 (W : World), PgAt l1 W (some ⟨a1, 0, none⟩) (some ⟨a2, 0, none⟩) (some ⟨a3, 0, none⟩) (some ⟨a4, 0, none⟩) (some ⟨a5, 0, none⟩) P → PgAt l2 W (some ⟨b1, 0, none⟩) (some ⟨b2, 0, none⟩) (some ⟨b3, 0, none⟩) (some ⟨b4, 0, none⟩) (some ⟨b5, 0, none⟩) P → _) := Lib.hid fun l1 l2 a1 a2 a3 a4 a5 b1 b2 b3 b4 b5 W x y => eqProgram_any l1 l2 P (some ⟨a1, 0, none⟩) (some ⟨a2, 0, none⟩) (some ⟨a3, 0, none⟩) (some ⟨a4, 0, none⟩) (some ⟨a5, 0, none⟩) (some ⟨b1, 0, none⟩) (some ⟨b2, 0, none⟩) (some ⟨b3, 0, none⟩) (some ⟨b4, 0, none⟩) (some ⟨b5, 0, none⟩) P.nv P.nx P.ns P.np P.nb P.nv P.nx P.ns P.np P.nb W SP.out x y
  have CF : Hid (∀ (l1 l2 : Nat) a1 a2 a3 a4 a5 b1 b2 b3 b4 b5 (W : World), PgAt l1 W (some ⟨a1, 0, none⟩) (some ⟨a2, 0, none⟩) (some ⟨a3, 0, none⟩) (some ⟨a4, 0, none⟩) (some ⟨a5, 0, none⟩) Q → PgAt l2 W (some ⟨b1, 0, none⟩) (some ⟨b2, 0, none⟩) (some ⟨b3, 0, none⟩) (some ⟨b4, 0, none⟩) (some ⟨b5, 0, none⟩) Q → _) := Lib.hid fun l1 l2 a1 a2 a3 a4 a5 b1 b2 b3 b4 b5 W x y => eqProgram_any l1 l2 Q (some ⟨a1, 0, none⟩) (some ⟨a2, 0, none⟩) (some ⟨a3, 0, none⟩) (some ⟨a4, 0, none⟩) (some ⟨a5, 0, none⟩) (some ⟨b1, 0, none⟩) (some ⟨b2, 0, none⟩) (some ⟨b3, 0, none⟩) (some ⟨b4, 0, none⟩) (some ⟨b5, 0, none⟩) Q.nv Q.nx Q.ns Q.np Q.nb Q.nv Q.nx Q.ns Q.np Q.nb W SQ.out x y
  have hcc : ∀ b : Bool, (!b == b) = false := fun b => by cases b <;> rfl
  clear hl1 hl2 hr1 hr2 H K CZ1 CZ2
  go_cut [6] (fun s6 wx => ∃ r : Bool, s6 = .bool r ∧ Hid (r = true ↔ PgEq P Q) ∧ Below w1.heap.size w1 wx)
  case first =>
    have HB := Lib.hid hB
    have hpl := hP.lt
    have hql := hQ.lt
    clear hB hP hQ
    go_region_held3 (fun w' => w'.cell? ⟨w.heap.size, 0, none⟩ = some (.slice Av P.nv cv) ∧ w'.cell? ⟨w.heap.size, 1, none⟩ = some (.slice Ax P.nx cx) ∧ w'.cell? ⟨w.heap.size, 2, none⟩ = some (.slice As P.ns cs) ∧ w'.cell? ⟨w.heap.size, 3, none⟩ = some (.slice Ap P.np cp) ∧ w'.cell? ⟨w.heap.size, 4, none⟩ = some (.slice Ab P.nb cb) ∧ w'.cell? ⟨w.heap.size, 5, none⟩ = some (.int .i64 P.fuel) ∧ w'.cell? ⟨w.heap.size + 1, 0, none⟩ = some (.slice Bv Q.nv dv) ∧ w'.cell? ⟨w.heap.size + 1, 1, none⟩ = some (.slice Bx Q.nx dx) ∧ w'.cell? ⟨w.heap.size + 1, 2, none⟩ = some (.slice Bs Q.ns ds) ∧ w'.cell? ⟨w.heap.size + 1, 3, none⟩ = some (.slice Bp Q.np dp) ∧ w'.cell? ⟨w.heap.size + 1, 4, none⟩ = some (.slice Bb Q.nb db) ∧ w'.cell? ⟨w.heap.size + 1, 5, none⟩ = some (.int .i64 Q.fuel) ∧ Below w1.heap.size w1 w')
      ((suffices hBB : Below w1.heap.size w1 _ from ⟨(hBB.cell hpl).trans q0, (hBB.cell hpl).trans q1, (hBB.cell hpl).trans q2, (hBB.cell hpl).trans q3, (hBB.cell hpl).trans q4, (hBB.cell hpl).trans q5, (hBB.cell hql).trans u0, (hBB.cell hql).trans u1, (hBB.cell hql).trans u2, (hBB.cell hql).trans u3, (hBB.cell hql).trans u4, (hBB.cell hql).trans u5, hBB⟩; first | exact (Below.refl _ w1).drew | exact held12 (by assumption) | (refine stepB (held12 (by assumption)) ?_; assumption)))
      (first
        | (go_at_call_of 12 (Value.agg #[.slice Av P.nv cv, .slice Ax P.nx cx, .slice As P.ns cs, .slice Ap P.np cp, .slice Ab P.nb cb, .int .i64 P.fuel]); refine (CP.out _ (HB.out.trans ((held12 (by assumption)).mono HB.out.size))).mono ?_; rintro e w2 ⟨⟨g1, g2, g3, g4, g5, rfl, hg⟩, hb2⟩; have Hg := Lib.hid hg; clear hg)
        | (go_at_call_of 12 (Value.agg #[.slice Bv Q.nv dv, .slice Bx Q.nx dx, .slice Bs Q.ns ds, .slice Bp Q.np dp, .slice Bb Q.nb db, .int .i64 Q.fuel]); refine (CQ.out _ (HB.out.trans ((held12 (by assumption)).mono HB.out.size))).mono ?_; rintro e w3 ⟨⟨k1, k2, k3, k4, k5, rfl, hk⟩, hb3⟩; have Hk := Lib.hid hk; clear hk)
        | (go_at_call 30; refine (CS.out _ _ _ _ _ _ _ _ _ _ _ _ _ (by first | exact Hg.out | exact Hg.out.below hb3 (Nat.le_refl _)) (by first | exact Hk.out | exact Hk.out.below hb2 (Nat.le_refl _))).mono ?_; rintro e w4 ⟨r, rfl, hr, hb4⟩))
    all_goals go_wp2_with fail
    all_goals go_meet
    all_goals exact ⟨r, rfl, hr, held12 (by assumption)⟩
  obtain ⟨r, rfl, hr, hbc⟩ := hcut
  clear q0 q1 q2 q3 q4 q5 qf u0 u1 u2 u3 u4 u5 uf
  replace hP := hP.below hbc hP.lt
  replace hQ := hQ.below hbc hQ.lt
  replace hB := hB.trans (hbc.mono hB.size)
  clear hbc
  obtain ⟨q0, q1, q2, q3, q4, q5, qf⟩ := hP.six
  obtain ⟨u0, u1, u2, u3, u4, u5, uf⟩ := hQ.six
  go_upto_region 11 with (first
    | (go_at_call 12
       with_reducible refine (CP.out _ hB).mono ?_
       rintro e w2 ⟨⟨g1, g2, g3, g4, g5, rfl, hg⟩, hb⟩
       clear q0 q1 q2 q3 q4 q5 qf u0 u1 u2 u3 u4 u5 uf
       have hX := Box.new w2 36 #[.slice (some ⟨g1, 0, none⟩) P.nv P.nv, .slice (some ⟨g2, 0, none⟩) P.nx P.nx, .slice (some ⟨g3, 0, none⟩) P.ns P.ns, .slice (some ⟨g4, 0, none⟩) P.np P.np, .slice (some ⟨g5, 0, none⟩) P.nb P.nb, .int .i64 P.fuel]
       have hal := (Below.refl w2.heap.size w2).alloc (Nat.le_refl _) (.cells #[.slice (some ⟨g1, 0, none⟩) P.nv P.nv, .slice (some ⟨g2, 0, none⟩) P.nx P.nx, .slice (some ⟨g3, 0, none⟩) P.ns P.ns, .slice (some ⟨g4, 0, none⟩) P.np P.np, .slice (some ⟨g5, 0, none⟩) P.nb P.nb, .int .i64 P.fuel] 36)
       replace hg := hg.below hal (Nat.le_refl _)
       replace hP := (hP.below hb hP.lt).alloc (.cells #[.slice (some ⟨g1, 0, none⟩) P.nv P.nv, .slice (some ⟨g2, 0, none⟩) P.nx P.nx, .slice (some ⟨g3, 0, none⟩) P.ns P.ns, .slice (some ⟨g4, 0, none⟩) P.np P.np, .slice (some ⟨g5, 0, none⟩) P.nb P.nb, .int .i64 P.fuel] 36)
       replace hQ := (hQ.below hb hQ.lt).alloc (.cells #[.slice (some ⟨g1, 0, none⟩) P.nv P.nv, .slice (some ⟨g2, 0, none⟩) P.nx P.nx, .slice (some ⟨g3, 0, none⟩) P.ns P.ns, .slice (some ⟨g4, 0, none⟩) P.np P.np, .slice (some ⟨g5, 0, none⟩) P.nb P.nb, .int .i64 P.fuel] 36)
       replace hB := (hB.trans (hb.mono hB.size)).trans (hal.mono (hB.trans (hb.mono hB.size)).size)
       clear hb hal
       obtain ⟨q0, q1, q2, q3, q4, q5, qf⟩ := hP.six
       obtain ⟨u0, u1, u2, u3, u4, u5, uf⟩ := hQ.six)
    | (go_at_call 12
       with_reducible refine (CQ.out _ hB).mono ?_
       rintro e w3 ⟨⟨k1, k2, k3, k4, k5, rfl, hk⟩, hb⟩
       clear q0 q1 q2 q3 q4 q5 qf u0 u1 u2 u3 u4 u5 uf
       have hY := Box.new w3 36 #[.slice (some ⟨k1, 0, none⟩) Q.nv Q.nv, .slice (some ⟨k2, 0, none⟩) Q.nx Q.nx, .slice (some ⟨k3, 0, none⟩) Q.ns Q.ns, .slice (some ⟨k4, 0, none⟩) Q.np Q.np, .slice (some ⟨k5, 0, none⟩) Q.nb Q.nb, .int .i64 Q.fuel]
       have hal := (Below.refl w3.heap.size w3).alloc (Nat.le_refl _) (.cells #[.slice (some ⟨k1, 0, none⟩) Q.nv Q.nv, .slice (some ⟨k2, 0, none⟩) Q.nx Q.nx, .slice (some ⟨k3, 0, none⟩) Q.ns Q.ns, .slice (some ⟨k4, 0, none⟩) Q.np Q.np, .slice (some ⟨k5, 0, none⟩) Q.nb Q.nb, .int .i64 Q.fuel] 36)
       replace hk := hk.below hal (Nat.le_refl _)
       replace hX := (hX.below hb hX.lt).alloc (.cells #[.slice (some ⟨k1, 0, none⟩) Q.nv Q.nv, .slice (some ⟨k2, 0, none⟩) Q.nx Q.nx, .slice (some ⟨k3, 0, none⟩) Q.ns Q.ns, .slice (some ⟨k4, 0, none⟩) Q.np Q.np, .slice (some ⟨k5, 0, none⟩) Q.nb Q.nb, .int .i64 Q.fuel] 36)
       replace hg := (hg.below hb (Nat.le_refl _)).below hal (Nat.le_refl _)
       replace hP := (hP.below hb hP.lt).alloc (.cells #[.slice (some ⟨k1, 0, none⟩) Q.nv Q.nv, .slice (some ⟨k2, 0, none⟩) Q.nx Q.nx, .slice (some ⟨k3, 0, none⟩) Q.ns Q.ns, .slice (some ⟨k4, 0, none⟩) Q.np Q.np, .slice (some ⟨k5, 0, none⟩) Q.nb Q.nb, .int .i64 Q.fuel] 36)
       replace hQ := (hQ.below hb hQ.lt).alloc (.cells #[.slice (some ⟨k1, 0, none⟩) Q.nv Q.nv, .slice (some ⟨k2, 0, none⟩) Q.nx Q.nx, .slice (some ⟨k3, 0, none⟩) Q.ns Q.ns, .slice (some ⟨k4, 0, none⟩) Q.np Q.np, .slice (some ⟨k5, 0, none⟩) Q.nb Q.nb, .int .i64 Q.fuel] 36)
       replace hB := (hB.trans (hb.mono hB.size)).trans (hal.mono (hB.trans (hb.mono hB.size)).size)
       clear hb hal
       obtain ⟨x0, x1, x2, x3, x4, x5, xf⟩ := hX.six
       obtain ⟨y0, y1, y2, y3, y4, y5, yf⟩ := hY.six))
  go_upto_region 14 with (go_at_call 31
                          refine (CM.out _ _ _ _ _ _ _ _ _ _ _ _ _ hg hk).mono ?_
                          rintro e w4 ⟨r', rfl, hr', hb⟩
                          obtain rfl : r' = r := Bool.eq_iff_iff.2 (hr'.out.trans hr.out.symm)
                          clear x0 x1 x2 x3 x4 x5 xf y0 y1 y2 y3 y4 y5 yf
                          replace hX := hX.below hb hX.lt
                          replace hY := hY.below hb hY.lt
                          replace hg := hg.below hb (Nat.le_refl _)
                          replace hk := hk.below hb (Nat.le_refl _)
                          replace hP := hP.below hb hP.lt
                          replace hQ := hQ.below hb hQ.lt
                          replace hB := hB.trans (hb.mono hB.size)
                          clear hb
                          have nr : (r' != r') = false := by cases r' <;> rfl
                          obtain ⟨q0, q1, q2, q3, q4, q5, qf⟩ := hP.six
                          obtain ⟨u0, u1, u2, u3, u4, u5, uf⟩ := hQ.six
                          obtain ⟨x0, x1, x2, x3, x4, x5, xf⟩ := hX.six
                          obtain ⟨y0, y1, y2, y3, y4, y5, yf⟩ := hY.six)
  go_cut [39] (fun s wx => s = .bool false ∧ Below w4.heap.size w4 wx)
  case first =>
    have HB := Lib.hid hB
    have HG := Lib.hid hg
    have hxl := hX.lt
    have hbl := hP.lt
    clear hB hP hQ hX hY hg hk
    go_region_held3 (fun w' => w'.cell? ⟨w2.heap.size, 0, none⟩ = some (.slice (some ⟨g1, 0, none⟩) P.nv P.nv) ∧ w'.cell? ⟨w2.heap.size, 1, none⟩ = some (.slice (some ⟨g2, 0, none⟩) P.nx P.nx) ∧ w'.cell? ⟨w2.heap.size, 2, none⟩ = some (.slice (some ⟨g3, 0, none⟩) P.ns P.ns) ∧ w'.cell? ⟨w2.heap.size, 3, none⟩ = some (.slice (some ⟨g4, 0, none⟩) P.np P.np) ∧ w'.cell? ⟨w2.heap.size, 4, none⟩ = some (.slice (some ⟨g5, 0, none⟩) P.nb P.nb) ∧ w'.cell? ⟨w2.heap.size, 5, none⟩ = some (.int .i64 P.fuel) ∧ w'.cell? ⟨w.heap.size, 0, none⟩ = some (.slice Av P.nv cv) ∧ w'.cell? ⟨w.heap.size, 1, none⟩ = some (.slice Ax P.nx cx) ∧ w'.cell? ⟨w.heap.size, 2, none⟩ = some (.slice As P.ns cs) ∧ w'.cell? ⟨w.heap.size, 3, none⟩ = some (.slice Ap P.np cp) ∧ w'.cell? ⟨w.heap.size, 4, none⟩ = some (.slice Ab P.nb cb) ∧ w'.cell? ⟨w.heap.size, 5, none⟩ = some (.int .i64 P.fuel) ∧ Below w4.heap.size w4 w')
      ((suffices hBB : Below w4.heap.size w4 _ from ⟨(hBB.cell hxl).trans x0, (hBB.cell hxl).trans x1, (hBB.cell hxl).trans x2, (hBB.cell hxl).trans x3, (hBB.cell hxl).trans x4, (hBB.cell hxl).trans x5, (hBB.cell hbl).trans q0, (hBB.cell hbl).trans q1, (hBB.cell hbl).trans q2, (hBB.cell hbl).trans q3, (hBB.cell hbl).trans q4, (hBB.cell hbl).trans q5, hBB⟩; first | exact (Below.refl _ w4).drew | exact held12 (by assumption) | (refine stepB (held12 (by assumption)) ?_; assumption)))
      (first
        | (go_at_call 12; refine (CP.out _ (HB.out.trans ((held12 (by assumption)).mono HB.out.size))).mono ?_; rintro e w7 ⟨⟨m1, m2, m3, m4, m5, rfl, hm⟩, hb7⟩; have Hm := Lib.hid hm; clear hm)
        | (go_at_call 14; refine (CE.out _ _ _ _ _ _ _ _ _ _ _ _ _ (HG.out.below (held12 (by assumption)) (Nat.le_refl _)) Hm.out).mono ?_; rintro e w8 ⟨rfl, hb8⟩))
    all_goals go_wp2_with fail
    all_goals go_meet
    all_goals exact ⟨rfl, held12 (by assumption)⟩
  obtain ⟨rfl, hb⟩ := hcut
  clear q0 q1 q2 q3 q4 q5 qf u0 u1 u2 u3 u4 u5 uf x0 x1 x2 x3 x4 x5 xf y0 y1 y2 y3 y4 y5 yf
  replace hX := hX.below hb hX.lt
  replace hY := hY.below hb hY.lt
  replace hk := hk.below hb (Nat.le_refl _)
  replace hP := hP.below hb hP.lt
  replace hQ := hQ.below hb hQ.lt
  replace hB := hB.trans (hb.mono hB.size)
  clear hb hg
  obtain ⟨u0, u1, u2, u3, u4, u5, uf⟩ := hQ.six
  obtain ⟨y0, y1, y2, y3, y4, y5, yf⟩ := hY.six
  rename World => w5
  go_upto_region 16 with fail
  go_cut [44] (fun s wx => s = .bool false ∧ Below w5.heap.size w5 wx)
  case first =>
    have HB := Lib.hid hB
    have HG := Lib.hid hk
    have hxl := hY.lt
    have hbl := hQ.lt
    clear hB hP hQ hX hY hk
    go_region_held3 (fun w' => w'.cell? ⟨w3.heap.size, 0, none⟩ = some (.slice (some ⟨k1, 0, none⟩) Q.nv Q.nv) ∧ w'.cell? ⟨w3.heap.size, 1, none⟩ = some (.slice (some ⟨k2, 0, none⟩) Q.nx Q.nx) ∧ w'.cell? ⟨w3.heap.size, 2, none⟩ = some (.slice (some ⟨k3, 0, none⟩) Q.ns Q.ns) ∧ w'.cell? ⟨w3.heap.size, 3, none⟩ = some (.slice (some ⟨k4, 0, none⟩) Q.np Q.np) ∧ w'.cell? ⟨w3.heap.size, 4, none⟩ = some (.slice (some ⟨k5, 0, none⟩) Q.nb Q.nb) ∧ w'.cell? ⟨w3.heap.size, 5, none⟩ = some (.int .i64 Q.fuel) ∧ w'.cell? ⟨w.heap.size + 1, 0, none⟩ = some (.slice Bv Q.nv dv) ∧ w'.cell? ⟨w.heap.size + 1, 1, none⟩ = some (.slice Bx Q.nx dx) ∧ w'.cell? ⟨w.heap.size + 1, 2, none⟩ = some (.slice Bs Q.ns ds) ∧ w'.cell? ⟨w.heap.size + 1, 3, none⟩ = some (.slice Bp Q.np dp) ∧ w'.cell? ⟨w.heap.size + 1, 4, none⟩ = some (.slice Bb Q.nb db) ∧ w'.cell? ⟨w.heap.size + 1, 5, none⟩ = some (.int .i64 Q.fuel) ∧ Below w5.heap.size w5 w')
      ((suffices hBB : Below w5.heap.size w5 _ from ⟨(hBB.cell hxl).trans y0, (hBB.cell hxl).trans y1, (hBB.cell hxl).trans y2, (hBB.cell hxl).trans y3, (hBB.cell hxl).trans y4, (hBB.cell hxl).trans y5, (hBB.cell hbl).trans u0, (hBB.cell hbl).trans u1, (hBB.cell hbl).trans u2, (hBB.cell hbl).trans u3, (hBB.cell hbl).trans u4, (hBB.cell hbl).trans u5, hBB⟩; first | exact (Below.refl _ w5).drew | exact held12 (by assumption) | (refine stepB (held12 (by assumption)) ?_; assumption)))
      (first
        | (go_at_call 12; refine (CQ.out _ (HB.out.trans ((held12 (by assumption)).mono HB.out.size))).mono ?_; rintro e w7 ⟨⟨m1, m2, m3, m4, m5, rfl, hm⟩, hb7⟩; have Hm := Lib.hid hm; clear hm)
        | (go_at_call 14; refine (CF.out _ _ _ _ _ _ _ _ _ _ _ _ _ (HG.out.below (held12 (by assumption)) (Nat.le_refl _)) Hm.out).mono ?_; rintro e w8 ⟨rfl, hb8⟩))
    all_goals go_wp2_with fail
    all_goals go_meet
    all_goals exact ⟨rfl, held12 (by assumption)⟩
  obtain ⟨rfl, hb⟩ := hcut
  go_wp2_with fail
  go_ret
  exact ⟨rfl, hB.trans (hb.mono hB.size)⟩

end Go.Proofs.Ytmojckplaplpfaa
