/-
  The model's test of a statement. (Written by gen_pgss.py.)
-/
import Derived.Test.YtoaiejodbmkbjaaGreatDoorPgUs
namespace Go.Proofs.YtoaiejodbmkbjaaGreatDoor
open Go.RowKit Num

/-- A statement is sound, wherever it stands. -/
def StOk (P : Prg) (s : Stm) : Prop := if s.kind = 1 then Uses s false false false false false false else if s.kind = 2 then (0 ≤ s.var ∧ s.var ≤ (P.nv : Int) - 1) ∧ (0 ≤ s.ex ∧ s.ex ≤ (P.nx : Int) - 1) ∧ Uses s true true false false false false else if s.kind = 3 then (0 ≤ s.var ∧ s.var ≤ (P.nv : Int) - 1) ∧ ChsOk s (P.vz s.var.toNat) ∧ Uses s true false false false false false else if s.kind = 4 then (0 ≤ s.ex ∧ s.ex ≤ (P.nx : Int) - 1) ∧ Uses s false true false false false false else if s.kind = 5 then (0 ≤ s.ex ∧ s.ex ≤ (P.nx : Int) - 1) ∧ Uses s false true false false true true else if s.kind = 6 then (1 ≤ s.times ∧ s.times ≤ 4) ∧ Uses s false false true false true false else if s.kind = 7 then (0 ≤ s.ex ∧ s.ex ≤ (P.nx : Int) - 1) ∧ (0 ≤ s.times ∧ s.times ≤ 4) ∧ Uses s false true true false true false else if s.kind = 8 then (0 ≤ s.proc ∧ s.proc ≤ (P.np : Int) - 1) ∧ Uses s false false false true false false else False

theorem stOkSkip {P : Prg} {s : Stm} (hk : s.kind = 1) : StOk P s ↔ Uses s false false false false false false := by
  unfold StOk
  simp [hk]

theorem stOkAssign {P : Prg} {s : Stm} (hk : s.kind = 2) : StOk P s ↔ (0 ≤ s.var ∧ s.var ≤ (P.nv : Int) - 1) ∧ (0 ≤ s.ex ∧ s.ex ≤ (P.nx : Int) - 1) ∧ Uses s true true false false false false := by
  unfold StOk
  simp [hk]

theorem stOkSample {P : Prg} {s : Stm} (hk : s.kind = 3) : StOk P s ↔ (0 ≤ s.var ∧ s.var ≤ (P.nv : Int) - 1) ∧ ChsOk s (P.vz s.var.toNat) ∧ Uses s true false false false false false := by
  unfold StOk
  simp [hk]

theorem stOkObs {P : Prg} {s : Stm} (hk : s.kind = 4) : StOk P s ↔ (0 ≤ s.ex ∧ s.ex ≤ (P.nx : Int) - 1) ∧ Uses s false true false false false false := by
  unfold StOk
  simp [hk]

theorem stOkIf {P : Prg} {s : Stm} (hk : s.kind = 5) : StOk P s ↔ (0 ≤ s.ex ∧ s.ex ≤ (P.nx : Int) - 1) ∧ Uses s false true false false true true := by
  unfold StOk
  simp [hk]

theorem stOkRep {P : Prg} {s : Stm} (hk : s.kind = 6) : StOk P s ↔ (1 ≤ s.times ∧ s.times ≤ 4) ∧ Uses s false false true false true false := by
  unfold StOk
  simp [hk]

theorem stOkWhile {P : Prg} {s : Stm} (hk : s.kind = 7) : StOk P s ↔ (0 ≤ s.ex ∧ s.ex ≤ (P.nx : Int) - 1) ∧ (0 ≤ s.times ∧ s.times ≤ 4) ∧ Uses s false true true false true false := by
  unfold StOk
  simp [hk]

theorem stOkCall {P : Prg} {s : Stm} (hk : s.kind = 8) : StOk P s ↔ (0 ≤ s.proc ∧ s.proc ≤ (P.np : Int) - 1) ∧ Uses s false false false true false false := by
  unfold StOk
  simp [hk]

theorem stOkNone {P : Prg} {s : Stm} (hk : ¬ (1 ≤ s.kind ∧ s.kind ≤ 8)) : ¬ StOk P s := by
  unfold StOk
  rw [if_neg (by omega), if_neg (by omega), if_neg (by omega), if_neg (by omega), if_neg (by omega), if_neg (by omega), if_neg (by omega), if_neg (by omega)]
  exact fun h => h

theorem Yn.of {p q : Prop} {w w' : World} {e : Ending} (h : p ↔ q) (k : Yn q w e w') : Yn p w e w' := by
  obtain ⟨r, he, hr, hb⟩ := k
  exact ⟨r, he, Lib.hid (hr.out.trans h.symm), hb⟩

set_option maxRecDepth 100000 in
set_option maxHeartbeats 3200000 in
theorem specStSkip_any (lo lo' : Nat) (P : Prg) (s : Stm) (Av Ax As Ap Ab A3 A4 A5 : Option Addr) (cv cx cs cp cb c3 c4 c5 : Nat) (w : World) (_hs : s.small) (hV : VarsOk P) (hnx : P.nx ≤ 1048576) (hnp : P.np ≤ 1048576) (_h : VrAt lo w Av P.nv P.vn P.vz) (_h3 : ChAt lo' w A3 s.nc s.ch) (hk : s.kind = 1) :
    Calls Tryz.prog 38 #[.agg #[.slice Av P.nv cv, .slice Ax P.nx cx, .slice As P.ns cs, .slice Ap P.np cp, .slice Ab P.nb cb, .int .i64 P.fuel], .agg #[.int .i64 s.kind, .int .i64 s.var, .int .i64 s.ex, .slice A3 s.nc c3, .slice A4 s.nt c4, .slice A5 s.ne c5, .int .i64 s.times, .int .i64 s.proc]] w (Yn (Uses s false false false false false false) w) := by
  have hP := (Box.new w 37 #[.slice Av P.nv cv, .slice Ax P.nx cx, .slice As P.ns cs, .slice Ap P.np cp, .slice Ab P.nb cb, .int .i64 P.fuel]).alloc (.cells #[.int .i64 s.kind, .int .i64 s.var, .int .i64 s.ex, .slice A3 s.nc c3, .slice A4 s.nt c4, .slice A5 s.ne c5, .int .i64 s.times, .int .i64 s.proc] 77)
  have hQ := Box.new (w.alloc (.cells #[.slice Av P.nv cv, .slice Ax P.nx cx, .slice As P.ns cs, .slice Ap P.np cp, .slice Ab P.nb cb, .int .i64 P.fuel] 37)) 77 #[.int .i64 s.kind, .int .i64 s.var, .int .i64 s.ex, .slice A3 s.nc c3, .slice A4 s.nt c4, .slice A5 s.ne c5, .int .i64 s.times, .int .i64 s.proc]
  rw [show (w.alloc (.cells #[.slice Av P.nv cv, .slice Ax P.nx cx, .slice As P.ns cs, .slice Ap P.np cp, .slice Ab P.nb cb, .int .i64 P.fuel] 37)).heap.size = w.heap.size + 1 by simp] at hQ
  have hB : Below w.heap.size w ((w.alloc (.cells #[.slice Av P.nv cv, .slice Ax P.nx cx, .slice As P.ns cs, .slice Ap P.np cp, .slice Ab P.nb cb, .int .i64 P.fuel] 37)).alloc (.cells #[.int .i64 s.kind, .int .i64 s.var, .int .i64 s.ex, .slice A3 s.nc c3, .slice A4 s.nt c4, .slice A5 s.ne c5, .int .i64 s.times, .int .i64 s.proc] 77)) := ((Below.refl _ w).alloc (Nat.le_refl _) _).alloc (by simp) _
  obtain ⟨w1, hw1⟩ : ∃ w1, w1 = (w.alloc (.cells #[.slice Av P.nv cv, .slice Ax P.nx cx, .slice As P.ns cs, .slice Ap P.np cp, .slice Ab P.nb cb, .int .i64 P.fuel] 37)).alloc (.cells #[.int .i64 s.kind, .int .i64 s.var, .int .i64 s.ex, .slice A3 s.nc c3, .slice A4 s.nt c4, .slice A5 s.ne c5, .int .i64 s.times, .int .i64 s.proc] 77) := ⟨_, rfl⟩
  have hnv5 := hV.2.2
  have hw5 : IntKind.i64.wrap ((P.nv : Int) - 1) = (P.nv : Int) - 1 := IntWalk.i64_in _ (by omega)
  have hw6 : IntKind.i64.wrap ((P.nx : Int) - 1) = (P.nx : Int) - 1 := IntWalk.i64_in _ (by omega)
  have hw7 : IntKind.i64.wrap ((P.np : Int) - 1) = (P.np : Int) - 1 := IntWalk.i64_in _ (by omega)
  obtain ⟨bv, hbv⟩ : ∃ b, b = decide (0 ≤ s.var ∧ s.var ≤ ((P.nv : Int) - 1)) := ⟨_, rfl⟩
  have Cv : Hid (∀ W, Calls Tryz.prog 15 #[.int .i64 s.var, .int .i64 0, .int .i64 ((P.nv : Int) - 1)] W fun e w' => e = .returned (.bool bv) ∧ W = w') := Lib.hid fun W => by rw [hbv]; exact in3_any _ _ _ W
  have Hv : Hid (bv = true ↔ (0 ≤ s.var ∧ s.var ≤ (P.nv : Int) - 1)) := Lib.hid (by rw [hbv]; exact decide_eq_true_iff)
  clear hbv
  obtain ⟨be, hbe⟩ : ∃ b, b = decide (0 ≤ s.ex ∧ s.ex ≤ ((P.nx : Int) - 1)) := ⟨_, rfl⟩
  have Ce : Hid (∀ W, Calls Tryz.prog 15 #[.int .i64 s.ex, .int .i64 0, .int .i64 ((P.nx : Int) - 1)] W fun e w' => e = .returned (.bool be) ∧ W = w') := Lib.hid fun W => by rw [hbe]; exact in3_any _ _ _ W
  have He : Hid (be = true ↔ (0 ≤ s.ex ∧ s.ex ≤ (P.nx : Int) - 1)) := Lib.hid (by rw [hbe]; exact decide_eq_true_iff)
  clear hbe
  have k1 : (s.kind == 1) = true := by rw [hk]; rfl
  have CU : Hid (∀ W, _) := Lib.hid fun W => usesSkip_any s A3 A4 A5 c3 c4 c5 W hk
  clear _h _h3 hk _hs hV
  go_enter Tryz.func38, Tryz.ntmps38
  go_upto_region 1 with fail
  rw [← hw1] at hP hQ hB ⊢
  clear hw1
  obtain ⟨q0, q1, q2, q3, q4, q5, q6, q7, qf⟩ := hQ.eight
  obtain ⟨t0, t1, t2, t3, t4, t5, tf⟩ := hP.six
  go_quiet ((go_at_call 15; first | (with_reducible exact quiet_left (Cv.out _)) | (with_reducible exact quiet_left (Ce.out _))))
  go_wp2_with (first | (go_at_call 60; refine (CU.out _).mono ?_; rintro e w3 ⟨r, rfl, hr, hb3⟩))
  go_ret
  exact ⟨r, rfl, hr, (below_drewN _ hB).trans (hb3.mono (below_drewN _ hB).size)⟩

set_option maxRecDepth 100000 in
set_option maxHeartbeats 3200000 in
theorem specStAssign_any (lo lo' : Nat) (P : Prg) (s : Stm) (Av Ax As Ap Ab A3 A4 A5 : Option Addr) (cv cx cs cp cb c3 c4 c5 : Nat) (w : World) (_hs : s.small) (hV : VarsOk P) (hnx : P.nx ≤ 1048576) (hnp : P.np ≤ 1048576) (_h : VrAt lo w Av P.nv P.vn P.vz) (_h3 : ChAt lo' w A3 s.nc s.ch) (hk : s.kind = 2) :
    Calls Tryz.prog 38 #[.agg #[.slice Av P.nv cv, .slice Ax P.nx cx, .slice As P.ns cs, .slice Ap P.np cp, .slice Ab P.nb cb, .int .i64 P.fuel], .agg #[.int .i64 s.kind, .int .i64 s.var, .int .i64 s.ex, .slice A3 s.nc c3, .slice A4 s.nt c4, .slice A5 s.ne c5, .int .i64 s.times, .int .i64 s.proc]] w (Yn ((0 ≤ s.var ∧ s.var ≤ (P.nv : Int) - 1) ∧ (0 ≤ s.ex ∧ s.ex ≤ (P.nx : Int) - 1) ∧ Uses s true true false false false false) w) := by
  have hP := (Box.new w 37 #[.slice Av P.nv cv, .slice Ax P.nx cx, .slice As P.ns cs, .slice Ap P.np cp, .slice Ab P.nb cb, .int .i64 P.fuel]).alloc (.cells #[.int .i64 s.kind, .int .i64 s.var, .int .i64 s.ex, .slice A3 s.nc c3, .slice A4 s.nt c4, .slice A5 s.ne c5, .int .i64 s.times, .int .i64 s.proc] 77)
  have hQ := Box.new (w.alloc (.cells #[.slice Av P.nv cv, .slice Ax P.nx cx, .slice As P.ns cs, .slice Ap P.np cp, .slice Ab P.nb cb, .int .i64 P.fuel] 37)) 77 #[.int .i64 s.kind, .int .i64 s.var, .int .i64 s.ex, .slice A3 s.nc c3, .slice A4 s.nt c4, .slice A5 s.ne c5, .int .i64 s.times, .int .i64 s.proc]
  rw [show (w.alloc (.cells #[.slice Av P.nv cv, .slice Ax P.nx cx, .slice As P.ns cs, .slice Ap P.np cp, .slice Ab P.nb cb, .int .i64 P.fuel] 37)).heap.size = w.heap.size + 1 by simp] at hQ
  have hB : Below w.heap.size w ((w.alloc (.cells #[.slice Av P.nv cv, .slice Ax P.nx cx, .slice As P.ns cs, .slice Ap P.np cp, .slice Ab P.nb cb, .int .i64 P.fuel] 37)).alloc (.cells #[.int .i64 s.kind, .int .i64 s.var, .int .i64 s.ex, .slice A3 s.nc c3, .slice A4 s.nt c4, .slice A5 s.ne c5, .int .i64 s.times, .int .i64 s.proc] 77)) := ((Below.refl _ w).alloc (Nat.le_refl _) _).alloc (by simp) _
  obtain ⟨w1, hw1⟩ : ∃ w1, w1 = (w.alloc (.cells #[.slice Av P.nv cv, .slice Ax P.nx cx, .slice As P.ns cs, .slice Ap P.np cp, .slice Ab P.nb cb, .int .i64 P.fuel] 37)).alloc (.cells #[.int .i64 s.kind, .int .i64 s.var, .int .i64 s.ex, .slice A3 s.nc c3, .slice A4 s.nt c4, .slice A5 s.ne c5, .int .i64 s.times, .int .i64 s.proc] 77) := ⟨_, rfl⟩
  have hnv5 := hV.2.2
  have hw5 : IntKind.i64.wrap ((P.nv : Int) - 1) = (P.nv : Int) - 1 := IntWalk.i64_in _ (by omega)
  have hw6 : IntKind.i64.wrap ((P.nx : Int) - 1) = (P.nx : Int) - 1 := IntWalk.i64_in _ (by omega)
  have hw7 : IntKind.i64.wrap ((P.np : Int) - 1) = (P.np : Int) - 1 := IntWalk.i64_in _ (by omega)
  obtain ⟨bv, hbv⟩ : ∃ b, b = decide (0 ≤ s.var ∧ s.var ≤ ((P.nv : Int) - 1)) := ⟨_, rfl⟩
  have Cv : Hid (∀ W, Calls Tryz.prog 15 #[.int .i64 s.var, .int .i64 0, .int .i64 ((P.nv : Int) - 1)] W fun e w' => e = .returned (.bool bv) ∧ W = w') := Lib.hid fun W => by rw [hbv]; exact in3_any _ _ _ W
  have Hv : Hid (bv = true ↔ (0 ≤ s.var ∧ s.var ≤ (P.nv : Int) - 1)) := Lib.hid (by rw [hbv]; exact decide_eq_true_iff)
  clear hbv
  obtain ⟨be, hbe⟩ : ∃ b, b = decide (0 ≤ s.ex ∧ s.ex ≤ ((P.nx : Int) - 1)) := ⟨_, rfl⟩
  have Ce : Hid (∀ W, Calls Tryz.prog 15 #[.int .i64 s.ex, .int .i64 0, .int .i64 ((P.nx : Int) - 1)] W fun e w' => e = .returned (.bool be) ∧ W = w') := Lib.hid fun W => by rw [hbe]; exact in3_any _ _ _ W
  have He : Hid (be = true ↔ (0 ≤ s.ex ∧ s.ex ≤ (P.nx : Int) - 1)) := Lib.hid (by rw [hbe]; exact decide_eq_true_iff)
  clear hbe
  have k1 : (s.kind == 1) = false := by rw [hk]; rfl
  have k2 : (s.kind == 2) = true := by rw [hk]; rfl
  have CU : Hid (∀ W, _) := Lib.hid fun W => usesAssign_any s A3 A4 A5 c3 c4 c5 W hk
  clear _h _h3 hk _hs hV
  cases bv with
  | false =>
    go_enter Tryz.func38, Tryz.ntmps38
    go_upto_region 1 with fail
    rw [← hw1] at hP hQ hB ⊢
    clear hw1
    obtain ⟨q0, q1, q2, q3, q4, q5, q6, q7, qf⟩ := hQ.eight
    obtain ⟨t0, t1, t2, t3, t4, t5, tf⟩ := hP.six
    go_quiet ((go_at_call 15; first | (with_reducible exact quiet_left (Cv.out _)) | (with_reducible exact quiet_left (Ce.out _))))
    go_wp2_with fail
    go_ret
    exact Yn.no (fun h => by have := Hv.out.2 h.1; cases this) (below_drewN _ hB)
  | true =>
    cases be with
    | false =>
      go_enter Tryz.func38, Tryz.ntmps38
      go_upto_region 1 with fail
      rw [← hw1] at hP hQ hB ⊢
      clear hw1
      obtain ⟨q0, q1, q2, q3, q4, q5, q6, q7, qf⟩ := hQ.eight
      obtain ⟨t0, t1, t2, t3, t4, t5, tf⟩ := hP.six
      go_quiet ((go_at_call 15; first | (with_reducible exact quiet_left (Cv.out _)) | (with_reducible exact quiet_left (Ce.out _))))
      go_wp2_with fail
      go_ret
      exact Yn.no (fun h => by have := He.out.2 h.2.1; cases this) (below_drewN _ hB)
    | true =>
      go_enter Tryz.func38, Tryz.ntmps38
      go_upto_region 1 with fail
      rw [← hw1] at hP hQ hB ⊢
      clear hw1
      obtain ⟨q0, q1, q2, q3, q4, q5, q6, q7, qf⟩ := hQ.eight
      obtain ⟨t0, t1, t2, t3, t4, t5, tf⟩ := hP.six
      go_quiet ((go_at_call 15; first | (with_reducible exact quiet_left (Cv.out _)) | (with_reducible exact quiet_left (Ce.out _))))
      go_wp2_with (first | (go_at_call 60; refine (CU.out _).mono ?_; rintro e w3 ⟨r, rfl, hr, hb3⟩))
      go_ret
      exact ⟨r, rfl, Lib.hid ⟨fun h => ⟨Hv.out.1 (by first | rfl | trivial), He.out.1 (by first | rfl | trivial), hr.out.1 h⟩, fun h => hr.out.2 h.2.2⟩, (below_drewN _ hB).trans (hb3.mono (below_drewN _ hB).size)⟩

set_option maxRecDepth 100000 in
set_option maxHeartbeats 3200000 in
theorem specStSample_any (lo lo' : Nat) (P : Prg) (s : Stm) (Av Ax As Ap Ab A3 A4 A5 : Option Addr) (cv cx cs cp cb c3 c4 c5 : Nat) (w : World) (hs : s.small) (hV : VarsOk P) (hnx : P.nx ≤ 1048576) (hnp : P.np ≤ 1048576) (h : VrAt lo w Av P.nv P.vn P.vz) (h3 : ChAt lo' w A3 s.nc s.ch) (hk : s.kind = 3) :
    Calls Tryz.prog 38 #[.agg #[.slice Av P.nv cv, .slice Ax P.nx cx, .slice As P.ns cs, .slice Ap P.np cp, .slice Ab P.nb cb, .int .i64 P.fuel], .agg #[.int .i64 s.kind, .int .i64 s.var, .int .i64 s.ex, .slice A3 s.nc c3, .slice A4 s.nt c4, .slice A5 s.ne c5, .int .i64 s.times, .int .i64 s.proc]] w (Yn ((0 ≤ s.var ∧ s.var ≤ (P.nv : Int) - 1) ∧ ChsOk s (P.vz s.var.toNat) ∧ Uses s true false false false false false) w) := by
  have hP := (Box.new w 37 #[.slice Av P.nv cv, .slice Ax P.nx cx, .slice As P.ns cs, .slice Ap P.np cp, .slice Ab P.nb cb, .int .i64 P.fuel]).alloc (.cells #[.int .i64 s.kind, .int .i64 s.var, .int .i64 s.ex, .slice A3 s.nc c3, .slice A4 s.nt c4, .slice A5 s.ne c5, .int .i64 s.times, .int .i64 s.proc] 77)
  have hQ := Box.new (w.alloc (.cells #[.slice Av P.nv cv, .slice Ax P.nx cx, .slice As P.ns cs, .slice Ap P.np cp, .slice Ab P.nb cb, .int .i64 P.fuel] 37)) 77 #[.int .i64 s.kind, .int .i64 s.var, .int .i64 s.ex, .slice A3 s.nc c3, .slice A4 s.nt c4, .slice A5 s.ne c5, .int .i64 s.times, .int .i64 s.proc]
  rw [show (w.alloc (.cells #[.slice Av P.nv cv, .slice Ax P.nx cx, .slice As P.ns cs, .slice Ap P.np cp, .slice Ab P.nb cb, .int .i64 P.fuel] 37)).heap.size = w.heap.size + 1 by simp] at hQ
  have hB : Below w.heap.size w ((w.alloc (.cells #[.slice Av P.nv cv, .slice Ax P.nx cx, .slice As P.ns cs, .slice Ap P.np cp, .slice Ab P.nb cb, .int .i64 P.fuel] 37)).alloc (.cells #[.int .i64 s.kind, .int .i64 s.var, .int .i64 s.ex, .slice A3 s.nc c3, .slice A4 s.nt c4, .slice A5 s.ne c5, .int .i64 s.times, .int .i64 s.proc] 77)) := ((Below.refl _ w).alloc (Nat.le_refl _) _).alloc (by simp) _
  obtain ⟨w1, hw1⟩ : ∃ w1, w1 = (w.alloc (.cells #[.slice Av P.nv cv, .slice Ax P.nx cx, .slice As P.ns cs, .slice Ap P.np cp, .slice Ab P.nb cb, .int .i64 P.fuel] 37)).alloc (.cells #[.int .i64 s.kind, .int .i64 s.var, .int .i64 s.ex, .slice A3 s.nc c3, .slice A4 s.nt c4, .slice A5 s.ne c5, .int .i64 s.times, .int .i64 s.proc] 77) := ⟨_, rfl⟩
  have hnv5 := hV.2.2
  have hw5 : IntKind.i64.wrap ((P.nv : Int) - 1) = (P.nv : Int) - 1 := IntWalk.i64_in _ (by omega)
  have hw6 : IntKind.i64.wrap ((P.nx : Int) - 1) = (P.nx : Int) - 1 := IntWalk.i64_in _ (by omega)
  have hw7 : IntKind.i64.wrap ((P.np : Int) - 1) = (P.np : Int) - 1 := IntWalk.i64_in _ (by omega)
  obtain ⟨bv, hbv⟩ : ∃ b, b = decide (0 ≤ s.var ∧ s.var ≤ ((P.nv : Int) - 1)) := ⟨_, rfl⟩
  have Cv : Hid (∀ W, Calls Tryz.prog 15 #[.int .i64 s.var, .int .i64 0, .int .i64 ((P.nv : Int) - 1)] W fun e w' => e = .returned (.bool bv) ∧ W = w') := Lib.hid fun W => by rw [hbv]; exact in3_any _ _ _ W
  have Hv : Hid (bv = true ↔ (0 ≤ s.var ∧ s.var ≤ (P.nv : Int) - 1)) := Lib.hid (by rw [hbv]; exact decide_eq_true_iff)
  clear hbv
  obtain ⟨be, hbe⟩ : ∃ b, b = decide (0 ≤ s.ex ∧ s.ex ≤ ((P.nx : Int) - 1)) := ⟨_, rfl⟩
  have Ce : Hid (∀ W, Calls Tryz.prog 15 #[.int .i64 s.ex, .int .i64 0, .int .i64 ((P.nx : Int) - 1)] W fun e w' => e = .returned (.bool be) ∧ W = w') := Lib.hid fun W => by rw [hbe]; exact in3_any _ _ _ W
  have He : Hid (be = true ↔ (0 ≤ s.ex ∧ s.ex ≤ (P.nx : Int) - 1)) := Lib.hid (by rw [hbe]; exact decide_eq_true_iff)
  clear hbe
  have k1 : (s.kind == 1) = false := by rw [hk]; rfl
  have k2 : (s.kind == 2) = false := by rw [hk]; rfl
  have k3 : (s.kind == 3) = true := by rw [hk]; rfl
  have CU : Hid (∀ W, _) := Lib.hid fun W => usesSample_any s A3 A4 A5 c3 c4 c5 W hk
  have HH := Lib.hid h
  have HC := Lib.hid h3
  have HVV := Lib.hid hV
  clear h h3 hk
  cases bv with
  | false =>
    go_enter Tryz.func38, Tryz.ntmps38
    go_upto_region 1 with fail
    rw [← hw1] at hP hQ hB ⊢
    clear hw1
    obtain ⟨q0, q1, q2, q3, q4, q5, q6, q7, qf⟩ := hQ.eight
    obtain ⟨t0, t1, t2, t3, t4, t5, tf⟩ := hP.six
    go_quiet ((go_at_call 15; first | (with_reducible exact quiet_left (Cv.out _)) | (with_reducible exact quiet_left (Ce.out _))))
    go_wp2_with fail
    go_ret
    exact Yn.no (fun h => by have := Hv.out.2 h.1; cases this) (below_drewN _ hB)
  | true =>
    have hv := Hv.out.1 rfl
    have CC : Hid (∀ W, Below w.heap.size w W → _) := Lib.hid fun W hW => specChs_any lo lo' P s s.var.toNat Av Ax As Ap Ab A3 A4 A5 cv cx cs cp cb c3 c4 c5 W hs (by omega) (by omega) hnv5 (HVV.out.1 s.var.toNat (by omega)).2.1 (HH.out.below hW (Nat.le_refl _)) (HC.out.below hW (Nat.le_refl _))
    clear hv
    go_enter Tryz.func38, Tryz.ntmps38
    go_upto_region 1 with fail
    rw [← hw1] at hP hQ hB ⊢
    clear hw1
    obtain ⟨q0, q1, q2, q3, q4, q5, q6, q7, qf⟩ := hQ.eight
    obtain ⟨t0, t1, t2, t3, t4, t5, tf⟩ := hP.six
    go_quiet ((go_at_call 15; first | (with_reducible exact quiet_left (Cv.out _)) | (with_reducible exact quiet_left (Ce.out _))))
    go_wp2_with (go_at_call 61
                 refine (CC.out _ (below_drewN _ hB)).mono ?_
                 rintro e w2 ⟨rc, rfl, hrc, hb2⟩
                 clear q0 q1 q2 q3 q4 q5 q6 q7 qf t0 t1 t2 t3 t4 t5 tf
                 have hB2 := (below_drewN _ hB).trans (hb2.mono (below_drewN _ hB).size)
                 have hQ2 : Box w2 (w.heap.size + 1) 77 #[.int .i64 s.kind, .int .i64 s.var, .int .i64 s.ex, .slice A3 s.nc c3, .slice A4 s.nt c4, .slice A5 s.ne c5, .int .i64 s.times, .int .i64 s.proc] := (Box.below (w := World.drewN _ _) hQ hb2 hQ.lt)
                 obtain ⟨q0, q1, q2, q3, q4, q5, q6, q7, qf⟩ := hQ2.eight)
    rotate_left
    · go_ret
      exact Yn.no (fun h => absurd (hrc.out.2 h.2.1) (by assumption)) hB2
    have Fc : Hid (rc = true) := Lib.hid (by assumption)
    go_wp2_with (go_at_call 60; refine (CU.out _).mono ?_; rintro e w3 ⟨r, rfl, hr, hb3⟩)
    go_ret
    exact ⟨r, rfl, Lib.hid ⟨fun h => ⟨Hv.out.1 (by first | rfl | trivial), hrc.out.1 Fc.out, hr.out.1 h⟩, fun h => hr.out.2 h.2.2⟩, hB2.trans (hb3.mono hB2.size)⟩

set_option maxRecDepth 100000 in
set_option maxHeartbeats 3200000 in
theorem specStObs_any (lo lo' : Nat) (P : Prg) (s : Stm) (Av Ax As Ap Ab A3 A4 A5 : Option Addr) (cv cx cs cp cb c3 c4 c5 : Nat) (w : World) (_hs : s.small) (hV : VarsOk P) (hnx : P.nx ≤ 1048576) (hnp : P.np ≤ 1048576) (_h : VrAt lo w Av P.nv P.vn P.vz) (_h3 : ChAt lo' w A3 s.nc s.ch) (hk : s.kind = 4) :
    Calls Tryz.prog 38 #[.agg #[.slice Av P.nv cv, .slice Ax P.nx cx, .slice As P.ns cs, .slice Ap P.np cp, .slice Ab P.nb cb, .int .i64 P.fuel], .agg #[.int .i64 s.kind, .int .i64 s.var, .int .i64 s.ex, .slice A3 s.nc c3, .slice A4 s.nt c4, .slice A5 s.ne c5, .int .i64 s.times, .int .i64 s.proc]] w (Yn ((0 ≤ s.ex ∧ s.ex ≤ (P.nx : Int) - 1) ∧ Uses s false true false false false false) w) := by
  have hP := (Box.new w 37 #[.slice Av P.nv cv, .slice Ax P.nx cx, .slice As P.ns cs, .slice Ap P.np cp, .slice Ab P.nb cb, .int .i64 P.fuel]).alloc (.cells #[.int .i64 s.kind, .int .i64 s.var, .int .i64 s.ex, .slice A3 s.nc c3, .slice A4 s.nt c4, .slice A5 s.ne c5, .int .i64 s.times, .int .i64 s.proc] 77)
  have hQ := Box.new (w.alloc (.cells #[.slice Av P.nv cv, .slice Ax P.nx cx, .slice As P.ns cs, .slice Ap P.np cp, .slice Ab P.nb cb, .int .i64 P.fuel] 37)) 77 #[.int .i64 s.kind, .int .i64 s.var, .int .i64 s.ex, .slice A3 s.nc c3, .slice A4 s.nt c4, .slice A5 s.ne c5, .int .i64 s.times, .int .i64 s.proc]
  rw [show (w.alloc (.cells #[.slice Av P.nv cv, .slice Ax P.nx cx, .slice As P.ns cs, .slice Ap P.np cp, .slice Ab P.nb cb, .int .i64 P.fuel] 37)).heap.size = w.heap.size + 1 by simp] at hQ
  have hB : Below w.heap.size w ((w.alloc (.cells #[.slice Av P.nv cv, .slice Ax P.nx cx, .slice As P.ns cs, .slice Ap P.np cp, .slice Ab P.nb cb, .int .i64 P.fuel] 37)).alloc (.cells #[.int .i64 s.kind, .int .i64 s.var, .int .i64 s.ex, .slice A3 s.nc c3, .slice A4 s.nt c4, .slice A5 s.ne c5, .int .i64 s.times, .int .i64 s.proc] 77)) := ((Below.refl _ w).alloc (Nat.le_refl _) _).alloc (by simp) _
  obtain ⟨w1, hw1⟩ : ∃ w1, w1 = (w.alloc (.cells #[.slice Av P.nv cv, .slice Ax P.nx cx, .slice As P.ns cs, .slice Ap P.np cp, .slice Ab P.nb cb, .int .i64 P.fuel] 37)).alloc (.cells #[.int .i64 s.kind, .int .i64 s.var, .int .i64 s.ex, .slice A3 s.nc c3, .slice A4 s.nt c4, .slice A5 s.ne c5, .int .i64 s.times, .int .i64 s.proc] 77) := ⟨_, rfl⟩
  have hnv5 := hV.2.2
  have hw5 : IntKind.i64.wrap ((P.nv : Int) - 1) = (P.nv : Int) - 1 := IntWalk.i64_in _ (by omega)
  have hw6 : IntKind.i64.wrap ((P.nx : Int) - 1) = (P.nx : Int) - 1 := IntWalk.i64_in _ (by omega)
  have hw7 : IntKind.i64.wrap ((P.np : Int) - 1) = (P.np : Int) - 1 := IntWalk.i64_in _ (by omega)
  obtain ⟨bv, hbv⟩ : ∃ b, b = decide (0 ≤ s.var ∧ s.var ≤ ((P.nv : Int) - 1)) := ⟨_, rfl⟩
  have Cv : Hid (∀ W, Calls Tryz.prog 15 #[.int .i64 s.var, .int .i64 0, .int .i64 ((P.nv : Int) - 1)] W fun e w' => e = .returned (.bool bv) ∧ W = w') := Lib.hid fun W => by rw [hbv]; exact in3_any _ _ _ W
  have Hv : Hid (bv = true ↔ (0 ≤ s.var ∧ s.var ≤ (P.nv : Int) - 1)) := Lib.hid (by rw [hbv]; exact decide_eq_true_iff)
  clear hbv
  obtain ⟨be, hbe⟩ : ∃ b, b = decide (0 ≤ s.ex ∧ s.ex ≤ ((P.nx : Int) - 1)) := ⟨_, rfl⟩
  have Ce : Hid (∀ W, Calls Tryz.prog 15 #[.int .i64 s.ex, .int .i64 0, .int .i64 ((P.nx : Int) - 1)] W fun e w' => e = .returned (.bool be) ∧ W = w') := Lib.hid fun W => by rw [hbe]; exact in3_any _ _ _ W
  have He : Hid (be = true ↔ (0 ≤ s.ex ∧ s.ex ≤ (P.nx : Int) - 1)) := Lib.hid (by rw [hbe]; exact decide_eq_true_iff)
  clear hbe
  have k1 : (s.kind == 1) = false := by rw [hk]; rfl
  have k2 : (s.kind == 2) = false := by rw [hk]; rfl
  have k3 : (s.kind == 3) = false := by rw [hk]; rfl
  have k4 : (s.kind == 4) = true := by rw [hk]; rfl
  have CU : Hid (∀ W, _) := Lib.hid fun W => usesObs_any s A3 A4 A5 c3 c4 c5 W hk
  clear _h _h3 hk _hs hV
  cases be with
  | false =>
    go_enter Tryz.func38, Tryz.ntmps38
    go_upto_region 1 with fail
    rw [← hw1] at hP hQ hB ⊢
    clear hw1
    obtain ⟨q0, q1, q2, q3, q4, q5, q6, q7, qf⟩ := hQ.eight
    obtain ⟨t0, t1, t2, t3, t4, t5, tf⟩ := hP.six
    go_quiet ((go_at_call 15; first | (with_reducible exact quiet_left (Cv.out _)) | (with_reducible exact quiet_left (Ce.out _))))
    go_wp2_with fail
    go_ret
    exact Yn.no (fun h => by have := He.out.2 h.1; cases this) (below_drewN _ hB)
  | true =>
    go_enter Tryz.func38, Tryz.ntmps38
    go_upto_region 1 with fail
    rw [← hw1] at hP hQ hB ⊢
    clear hw1
    obtain ⟨q0, q1, q2, q3, q4, q5, q6, q7, qf⟩ := hQ.eight
    obtain ⟨t0, t1, t2, t3, t4, t5, tf⟩ := hP.six
    go_quiet ((go_at_call 15; first | (with_reducible exact quiet_left (Cv.out _)) | (with_reducible exact quiet_left (Ce.out _))))
    go_wp2_with (first | (go_at_call 60; refine (CU.out _).mono ?_; rintro e w3 ⟨r, rfl, hr, hb3⟩))
    go_ret
    exact ⟨r, rfl, Lib.hid ⟨fun h => ⟨He.out.1 (by first | rfl | trivial), hr.out.1 h⟩, fun h => hr.out.2 h.2⟩, (below_drewN _ hB).trans (hb3.mono (below_drewN _ hB).size)⟩

set_option maxRecDepth 100000 in
set_option maxHeartbeats 3200000 in
theorem specStIf_any (lo lo' : Nat) (P : Prg) (s : Stm) (Av Ax As Ap Ab A3 A4 A5 : Option Addr) (cv cx cs cp cb c3 c4 c5 : Nat) (w : World) (_hs : s.small) (hV : VarsOk P) (hnx : P.nx ≤ 1048576) (hnp : P.np ≤ 1048576) (_h : VrAt lo w Av P.nv P.vn P.vz) (_h3 : ChAt lo' w A3 s.nc s.ch) (hk : s.kind = 5) :
    Calls Tryz.prog 38 #[.agg #[.slice Av P.nv cv, .slice Ax P.nx cx, .slice As P.ns cs, .slice Ap P.np cp, .slice Ab P.nb cb, .int .i64 P.fuel], .agg #[.int .i64 s.kind, .int .i64 s.var, .int .i64 s.ex, .slice A3 s.nc c3, .slice A4 s.nt c4, .slice A5 s.ne c5, .int .i64 s.times, .int .i64 s.proc]] w (Yn ((0 ≤ s.ex ∧ s.ex ≤ (P.nx : Int) - 1) ∧ Uses s false true false false true true) w) := by
  have hP := (Box.new w 37 #[.slice Av P.nv cv, .slice Ax P.nx cx, .slice As P.ns cs, .slice Ap P.np cp, .slice Ab P.nb cb, .int .i64 P.fuel]).alloc (.cells #[.int .i64 s.kind, .int .i64 s.var, .int .i64 s.ex, .slice A3 s.nc c3, .slice A4 s.nt c4, .slice A5 s.ne c5, .int .i64 s.times, .int .i64 s.proc] 77)
  have hQ := Box.new (w.alloc (.cells #[.slice Av P.nv cv, .slice Ax P.nx cx, .slice As P.ns cs, .slice Ap P.np cp, .slice Ab P.nb cb, .int .i64 P.fuel] 37)) 77 #[.int .i64 s.kind, .int .i64 s.var, .int .i64 s.ex, .slice A3 s.nc c3, .slice A4 s.nt c4, .slice A5 s.ne c5, .int .i64 s.times, .int .i64 s.proc]
  rw [show (w.alloc (.cells #[.slice Av P.nv cv, .slice Ax P.nx cx, .slice As P.ns cs, .slice Ap P.np cp, .slice Ab P.nb cb, .int .i64 P.fuel] 37)).heap.size = w.heap.size + 1 by simp] at hQ
  have hB : Below w.heap.size w ((w.alloc (.cells #[.slice Av P.nv cv, .slice Ax P.nx cx, .slice As P.ns cs, .slice Ap P.np cp, .slice Ab P.nb cb, .int .i64 P.fuel] 37)).alloc (.cells #[.int .i64 s.kind, .int .i64 s.var, .int .i64 s.ex, .slice A3 s.nc c3, .slice A4 s.nt c4, .slice A5 s.ne c5, .int .i64 s.times, .int .i64 s.proc] 77)) := ((Below.refl _ w).alloc (Nat.le_refl _) _).alloc (by simp) _
  obtain ⟨w1, hw1⟩ : ∃ w1, w1 = (w.alloc (.cells #[.slice Av P.nv cv, .slice Ax P.nx cx, .slice As P.ns cs, .slice Ap P.np cp, .slice Ab P.nb cb, .int .i64 P.fuel] 37)).alloc (.cells #[.int .i64 s.kind, .int .i64 s.var, .int .i64 s.ex, .slice A3 s.nc c3, .slice A4 s.nt c4, .slice A5 s.ne c5, .int .i64 s.times, .int .i64 s.proc] 77) := ⟨_, rfl⟩
  have hnv5 := hV.2.2
  have hw5 : IntKind.i64.wrap ((P.nv : Int) - 1) = (P.nv : Int) - 1 := IntWalk.i64_in _ (by omega)
  have hw6 : IntKind.i64.wrap ((P.nx : Int) - 1) = (P.nx : Int) - 1 := IntWalk.i64_in _ (by omega)
  have hw7 : IntKind.i64.wrap ((P.np : Int) - 1) = (P.np : Int) - 1 := IntWalk.i64_in _ (by omega)
  obtain ⟨bv, hbv⟩ : ∃ b, b = decide (0 ≤ s.var ∧ s.var ≤ ((P.nv : Int) - 1)) := ⟨_, rfl⟩
  have Cv : Hid (∀ W, Calls Tryz.prog 15 #[.int .i64 s.var, .int .i64 0, .int .i64 ((P.nv : Int) - 1)] W fun e w' => e = .returned (.bool bv) ∧ W = w') := Lib.hid fun W => by rw [hbv]; exact in3_any _ _ _ W
  have Hv : Hid (bv = true ↔ (0 ≤ s.var ∧ s.var ≤ (P.nv : Int) - 1)) := Lib.hid (by rw [hbv]; exact decide_eq_true_iff)
  clear hbv
  obtain ⟨be, hbe⟩ : ∃ b, b = decide (0 ≤ s.ex ∧ s.ex ≤ ((P.nx : Int) - 1)) := ⟨_, rfl⟩
  have Ce : Hid (∀ W, Calls Tryz.prog 15 #[.int .i64 s.ex, .int .i64 0, .int .i64 ((P.nx : Int) - 1)] W fun e w' => e = .returned (.bool be) ∧ W = w') := Lib.hid fun W => by rw [hbe]; exact in3_any _ _ _ W
  have He : Hid (be = true ↔ (0 ≤ s.ex ∧ s.ex ≤ (P.nx : Int) - 1)) := Lib.hid (by rw [hbe]; exact decide_eq_true_iff)
  clear hbe
  have k1 : (s.kind == 1) = false := by rw [hk]; rfl
  have k2 : (s.kind == 2) = false := by rw [hk]; rfl
  have k3 : (s.kind == 3) = false := by rw [hk]; rfl
  have k4 : (s.kind == 4) = false := by rw [hk]; rfl
  have k5 : (s.kind == 5) = true := by rw [hk]; rfl
  have CU : Hid (∀ W, _) := Lib.hid fun W => usesIf_any s A3 A4 A5 c3 c4 c5 W hk
  clear _h _h3 hk _hs hV
  cases be with
  | false =>
    go_enter Tryz.func38, Tryz.ntmps38
    go_upto_region 1 with fail
    rw [← hw1] at hP hQ hB ⊢
    clear hw1
    obtain ⟨q0, q1, q2, q3, q4, q5, q6, q7, qf⟩ := hQ.eight
    obtain ⟨t0, t1, t2, t3, t4, t5, tf⟩ := hP.six
    go_quiet ((go_at_call 15; first | (with_reducible exact quiet_left (Cv.out _)) | (with_reducible exact quiet_left (Ce.out _))))
    go_wp2_with fail
    go_ret
    exact Yn.no (fun h => by have := He.out.2 h.1; cases this) (below_drewN _ hB)
  | true =>
    go_enter Tryz.func38, Tryz.ntmps38
    go_upto_region 1 with fail
    rw [← hw1] at hP hQ hB ⊢
    clear hw1
    obtain ⟨q0, q1, q2, q3, q4, q5, q6, q7, qf⟩ := hQ.eight
    obtain ⟨t0, t1, t2, t3, t4, t5, tf⟩ := hP.six
    go_quiet ((go_at_call 15; first | (with_reducible exact quiet_left (Cv.out _)) | (with_reducible exact quiet_left (Ce.out _))))
    go_wp2_with (first | (go_at_call 60; refine (CU.out _).mono ?_; rintro e w3 ⟨r, rfl, hr, hb3⟩))
    go_ret
    exact ⟨r, rfl, Lib.hid ⟨fun h => ⟨He.out.1 (by first | rfl | trivial), hr.out.1 h⟩, fun h => hr.out.2 h.2⟩, (below_drewN _ hB).trans (hb3.mono (below_drewN _ hB).size)⟩

set_option maxRecDepth 100000 in
set_option maxHeartbeats 3200000 in
theorem specStRep_any (lo lo' : Nat) (P : Prg) (s : Stm) (Av Ax As Ap Ab A3 A4 A5 : Option Addr) (cv cx cs cp cb c3 c4 c5 : Nat) (w : World) (_hs : s.small) (hV : VarsOk P) (hnx : P.nx ≤ 1048576) (hnp : P.np ≤ 1048576) (_h : VrAt lo w Av P.nv P.vn P.vz) (_h3 : ChAt lo' w A3 s.nc s.ch) (hk : s.kind = 6) :
    Calls Tryz.prog 38 #[.agg #[.slice Av P.nv cv, .slice Ax P.nx cx, .slice As P.ns cs, .slice Ap P.np cp, .slice Ab P.nb cb, .int .i64 P.fuel], .agg #[.int .i64 s.kind, .int .i64 s.var, .int .i64 s.ex, .slice A3 s.nc c3, .slice A4 s.nt c4, .slice A5 s.ne c5, .int .i64 s.times, .int .i64 s.proc]] w (Yn ((1 ≤ s.times ∧ s.times ≤ 4) ∧ Uses s false false true false true false) w) := by
  have hP := (Box.new w 37 #[.slice Av P.nv cv, .slice Ax P.nx cx, .slice As P.ns cs, .slice Ap P.np cp, .slice Ab P.nb cb, .int .i64 P.fuel]).alloc (.cells #[.int .i64 s.kind, .int .i64 s.var, .int .i64 s.ex, .slice A3 s.nc c3, .slice A4 s.nt c4, .slice A5 s.ne c5, .int .i64 s.times, .int .i64 s.proc] 77)
  have hQ := Box.new (w.alloc (.cells #[.slice Av P.nv cv, .slice Ax P.nx cx, .slice As P.ns cs, .slice Ap P.np cp, .slice Ab P.nb cb, .int .i64 P.fuel] 37)) 77 #[.int .i64 s.kind, .int .i64 s.var, .int .i64 s.ex, .slice A3 s.nc c3, .slice A4 s.nt c4, .slice A5 s.ne c5, .int .i64 s.times, .int .i64 s.proc]
  rw [show (w.alloc (.cells #[.slice Av P.nv cv, .slice Ax P.nx cx, .slice As P.ns cs, .slice Ap P.np cp, .slice Ab P.nb cb, .int .i64 P.fuel] 37)).heap.size = w.heap.size + 1 by simp] at hQ
  have hB : Below w.heap.size w ((w.alloc (.cells #[.slice Av P.nv cv, .slice Ax P.nx cx, .slice As P.ns cs, .slice Ap P.np cp, .slice Ab P.nb cb, .int .i64 P.fuel] 37)).alloc (.cells #[.int .i64 s.kind, .int .i64 s.var, .int .i64 s.ex, .slice A3 s.nc c3, .slice A4 s.nt c4, .slice A5 s.ne c5, .int .i64 s.times, .int .i64 s.proc] 77)) := ((Below.refl _ w).alloc (Nat.le_refl _) _).alloc (by simp) _
  obtain ⟨w1, hw1⟩ : ∃ w1, w1 = (w.alloc (.cells #[.slice Av P.nv cv, .slice Ax P.nx cx, .slice As P.ns cs, .slice Ap P.np cp, .slice Ab P.nb cb, .int .i64 P.fuel] 37)).alloc (.cells #[.int .i64 s.kind, .int .i64 s.var, .int .i64 s.ex, .slice A3 s.nc c3, .slice A4 s.nt c4, .slice A5 s.ne c5, .int .i64 s.times, .int .i64 s.proc] 77) := ⟨_, rfl⟩
  have hnv5 := hV.2.2
  have hw5 : IntKind.i64.wrap ((P.nv : Int) - 1) = (P.nv : Int) - 1 := IntWalk.i64_in _ (by omega)
  have hw6 : IntKind.i64.wrap ((P.nx : Int) - 1) = (P.nx : Int) - 1 := IntWalk.i64_in _ (by omega)
  have hw7 : IntKind.i64.wrap ((P.np : Int) - 1) = (P.np : Int) - 1 := IntWalk.i64_in _ (by omega)
  obtain ⟨bv, hbv⟩ : ∃ b, b = decide (0 ≤ s.var ∧ s.var ≤ ((P.nv : Int) - 1)) := ⟨_, rfl⟩
  have Cv : Hid (∀ W, Calls Tryz.prog 15 #[.int .i64 s.var, .int .i64 0, .int .i64 ((P.nv : Int) - 1)] W fun e w' => e = .returned (.bool bv) ∧ W = w') := Lib.hid fun W => by rw [hbv]; exact in3_any _ _ _ W
  have Hv : Hid (bv = true ↔ (0 ≤ s.var ∧ s.var ≤ (P.nv : Int) - 1)) := Lib.hid (by rw [hbv]; exact decide_eq_true_iff)
  clear hbv
  obtain ⟨be, hbe⟩ : ∃ b, b = decide (0 ≤ s.ex ∧ s.ex ≤ ((P.nx : Int) - 1)) := ⟨_, rfl⟩
  have Ce : Hid (∀ W, Calls Tryz.prog 15 #[.int .i64 s.ex, .int .i64 0, .int .i64 ((P.nx : Int) - 1)] W fun e w' => e = .returned (.bool be) ∧ W = w') := Lib.hid fun W => by rw [hbe]; exact in3_any _ _ _ W
  have He : Hid (be = true ↔ (0 ≤ s.ex ∧ s.ex ≤ (P.nx : Int) - 1)) := Lib.hid (by rw [hbe]; exact decide_eq_true_iff)
  clear hbe
  obtain ⟨bt1, hbt1⟩ : ∃ b, b = decide (1 ≤ s.times ∧ s.times ≤ 4) := ⟨_, rfl⟩
  have Ct1 : Hid (∀ W, Calls Tryz.prog 15 #[.int .i64 s.times, .int .i64 1, .int .i64 4] W fun e w' => e = .returned (.bool bt1) ∧ W = w') := Lib.hid fun W => by rw [hbt1]; exact in3_any _ _ _ W
  have Ht1 : Hid (bt1 = true ↔ (1 ≤ s.times ∧ s.times ≤ 4)) := Lib.hid (by rw [hbt1]; exact decide_eq_true_iff)
  clear hbt1
  have k1 : (s.kind == 1) = false := by rw [hk]; rfl
  have k2 : (s.kind == 2) = false := by rw [hk]; rfl
  have k3 : (s.kind == 3) = false := by rw [hk]; rfl
  have k4 : (s.kind == 4) = false := by rw [hk]; rfl
  have k5 : (s.kind == 5) = false := by rw [hk]; rfl
  have k6 : (s.kind == 6) = true := by rw [hk]; rfl
  have CU : Hid (∀ W, _) := Lib.hid fun W => usesRep_any s A3 A4 A5 c3 c4 c5 W hk
  clear _h _h3 hk _hs hV
  cases bt1 with
  | false =>
    go_enter Tryz.func38, Tryz.ntmps38
    go_upto_region 1 with fail
    rw [← hw1] at hP hQ hB ⊢
    clear hw1
    obtain ⟨q0, q1, q2, q3, q4, q5, q6, q7, qf⟩ := hQ.eight
    obtain ⟨t0, t1, t2, t3, t4, t5, tf⟩ := hP.six
    go_quiet ((go_at_call 15; first | (with_reducible exact quiet_left (Cv.out _)) | (with_reducible exact quiet_left (Ce.out _))))
    go_wp2_with (first | (go_at_call 15; with_reducible refine (Ct1.out _).mono ?_; rintro e w' ⟨rfl, rfl⟩))
    go_ret
    exact Yn.no (fun h => by have := Ht1.out.2 h.1; cases this) (below_drewN _ hB)
  | true =>
    go_enter Tryz.func38, Tryz.ntmps38
    go_upto_region 1 with fail
    rw [← hw1] at hP hQ hB ⊢
    clear hw1
    obtain ⟨q0, q1, q2, q3, q4, q5, q6, q7, qf⟩ := hQ.eight
    obtain ⟨t0, t1, t2, t3, t4, t5, tf⟩ := hP.six
    go_quiet ((go_at_call 15; first | (with_reducible exact quiet_left (Cv.out _)) | (with_reducible exact quiet_left (Ce.out _))))
    go_wp2_with (first | (go_at_call 15; with_reducible refine (Ct1.out _).mono ?_; rintro e w' ⟨rfl, rfl⟩) | (go_at_call 60; refine (CU.out _).mono ?_; rintro e w3 ⟨r, rfl, hr, hb3⟩))
    go_ret
    exact ⟨r, rfl, Lib.hid ⟨fun h => ⟨Ht1.out.1 (by first | rfl | trivial), hr.out.1 h⟩, fun h => hr.out.2 h.2⟩, (below_drewN _ hB).trans (hb3.mono (below_drewN _ hB).size)⟩

set_option maxRecDepth 100000 in
set_option maxHeartbeats 3200000 in
theorem specStWhile_any (lo lo' : Nat) (P : Prg) (s : Stm) (Av Ax As Ap Ab A3 A4 A5 : Option Addr) (cv cx cs cp cb c3 c4 c5 : Nat) (w : World) (_hs : s.small) (hV : VarsOk P) (hnx : P.nx ≤ 1048576) (hnp : P.np ≤ 1048576) (_h : VrAt lo w Av P.nv P.vn P.vz) (_h3 : ChAt lo' w A3 s.nc s.ch) (hk : s.kind = 7) :
    Calls Tryz.prog 38 #[.agg #[.slice Av P.nv cv, .slice Ax P.nx cx, .slice As P.ns cs, .slice Ap P.np cp, .slice Ab P.nb cb, .int .i64 P.fuel], .agg #[.int .i64 s.kind, .int .i64 s.var, .int .i64 s.ex, .slice A3 s.nc c3, .slice A4 s.nt c4, .slice A5 s.ne c5, .int .i64 s.times, .int .i64 s.proc]] w (Yn ((0 ≤ s.ex ∧ s.ex ≤ (P.nx : Int) - 1) ∧ (0 ≤ s.times ∧ s.times ≤ 4) ∧ Uses s false true true false true false) w) := by
  have hP := (Box.new w 37 #[.slice Av P.nv cv, .slice Ax P.nx cx, .slice As P.ns cs, .slice Ap P.np cp, .slice Ab P.nb cb, .int .i64 P.fuel]).alloc (.cells #[.int .i64 s.kind, .int .i64 s.var, .int .i64 s.ex, .slice A3 s.nc c3, .slice A4 s.nt c4, .slice A5 s.ne c5, .int .i64 s.times, .int .i64 s.proc] 77)
  have hQ := Box.new (w.alloc (.cells #[.slice Av P.nv cv, .slice Ax P.nx cx, .slice As P.ns cs, .slice Ap P.np cp, .slice Ab P.nb cb, .int .i64 P.fuel] 37)) 77 #[.int .i64 s.kind, .int .i64 s.var, .int .i64 s.ex, .slice A3 s.nc c3, .slice A4 s.nt c4, .slice A5 s.ne c5, .int .i64 s.times, .int .i64 s.proc]
  rw [show (w.alloc (.cells #[.slice Av P.nv cv, .slice Ax P.nx cx, .slice As P.ns cs, .slice Ap P.np cp, .slice Ab P.nb cb, .int .i64 P.fuel] 37)).heap.size = w.heap.size + 1 by simp] at hQ
  have hB : Below w.heap.size w ((w.alloc (.cells #[.slice Av P.nv cv, .slice Ax P.nx cx, .slice As P.ns cs, .slice Ap P.np cp, .slice Ab P.nb cb, .int .i64 P.fuel] 37)).alloc (.cells #[.int .i64 s.kind, .int .i64 s.var, .int .i64 s.ex, .slice A3 s.nc c3, .slice A4 s.nt c4, .slice A5 s.ne c5, .int .i64 s.times, .int .i64 s.proc] 77)) := ((Below.refl _ w).alloc (Nat.le_refl _) _).alloc (by simp) _
  obtain ⟨w1, hw1⟩ : ∃ w1, w1 = (w.alloc (.cells #[.slice Av P.nv cv, .slice Ax P.nx cx, .slice As P.ns cs, .slice Ap P.np cp, .slice Ab P.nb cb, .int .i64 P.fuel] 37)).alloc (.cells #[.int .i64 s.kind, .int .i64 s.var, .int .i64 s.ex, .slice A3 s.nc c3, .slice A4 s.nt c4, .slice A5 s.ne c5, .int .i64 s.times, .int .i64 s.proc] 77) := ⟨_, rfl⟩
  have hnv5 := hV.2.2
  have hw5 : IntKind.i64.wrap ((P.nv : Int) - 1) = (P.nv : Int) - 1 := IntWalk.i64_in _ (by omega)
  have hw6 : IntKind.i64.wrap ((P.nx : Int) - 1) = (P.nx : Int) - 1 := IntWalk.i64_in _ (by omega)
  have hw7 : IntKind.i64.wrap ((P.np : Int) - 1) = (P.np : Int) - 1 := IntWalk.i64_in _ (by omega)
  obtain ⟨bv, hbv⟩ : ∃ b, b = decide (0 ≤ s.var ∧ s.var ≤ ((P.nv : Int) - 1)) := ⟨_, rfl⟩
  have Cv : Hid (∀ W, Calls Tryz.prog 15 #[.int .i64 s.var, .int .i64 0, .int .i64 ((P.nv : Int) - 1)] W fun e w' => e = .returned (.bool bv) ∧ W = w') := Lib.hid fun W => by rw [hbv]; exact in3_any _ _ _ W
  have Hv : Hid (bv = true ↔ (0 ≤ s.var ∧ s.var ≤ (P.nv : Int) - 1)) := Lib.hid (by rw [hbv]; exact decide_eq_true_iff)
  clear hbv
  obtain ⟨be, hbe⟩ : ∃ b, b = decide (0 ≤ s.ex ∧ s.ex ≤ ((P.nx : Int) - 1)) := ⟨_, rfl⟩
  have Ce : Hid (∀ W, Calls Tryz.prog 15 #[.int .i64 s.ex, .int .i64 0, .int .i64 ((P.nx : Int) - 1)] W fun e w' => e = .returned (.bool be) ∧ W = w') := Lib.hid fun W => by rw [hbe]; exact in3_any _ _ _ W
  have He : Hid (be = true ↔ (0 ≤ s.ex ∧ s.ex ≤ (P.nx : Int) - 1)) := Lib.hid (by rw [hbe]; exact decide_eq_true_iff)
  clear hbe
  obtain ⟨bt0, hbt0⟩ : ∃ b, b = decide (0 ≤ s.times ∧ s.times ≤ 4) := ⟨_, rfl⟩
  have Ct0 : Hid (∀ W, Calls Tryz.prog 15 #[.int .i64 s.times, .int .i64 0, .int .i64 4] W fun e w' => e = .returned (.bool bt0) ∧ W = w') := Lib.hid fun W => by rw [hbt0]; exact in3_any _ _ _ W
  have Ht0 : Hid (bt0 = true ↔ (0 ≤ s.times ∧ s.times ≤ 4)) := Lib.hid (by rw [hbt0]; exact decide_eq_true_iff)
  clear hbt0
  have k1 : (s.kind == 1) = false := by rw [hk]; rfl
  have k2 : (s.kind == 2) = false := by rw [hk]; rfl
  have k3 : (s.kind == 3) = false := by rw [hk]; rfl
  have k4 : (s.kind == 4) = false := by rw [hk]; rfl
  have k5 : (s.kind == 5) = false := by rw [hk]; rfl
  have k6 : (s.kind == 6) = false := by rw [hk]; rfl
  have k7 : (s.kind == 7) = true := by rw [hk]; rfl
  have CU : Hid (∀ W, _) := Lib.hid fun W => usesWhile_any s A3 A4 A5 c3 c4 c5 W hk
  clear _h _h3 hk _hs hV
  cases be with
  | false =>
    go_enter Tryz.func38, Tryz.ntmps38
    go_upto_region 1 with fail
    rw [← hw1] at hP hQ hB ⊢
    clear hw1
    obtain ⟨q0, q1, q2, q3, q4, q5, q6, q7, qf⟩ := hQ.eight
    obtain ⟨t0, t1, t2, t3, t4, t5, tf⟩ := hP.six
    go_quiet ((go_at_call 15; first | (with_reducible exact quiet_left (Cv.out _)) | (with_reducible exact quiet_left (Ce.out _))))
    go_wp2_with (first | (go_at_call 15; with_reducible refine (Ct0.out _).mono ?_; rintro e w' ⟨rfl, rfl⟩))
    go_ret
    exact Yn.no (fun h => by have := He.out.2 h.1; cases this) (below_drewN _ hB)
  | true =>
    cases bt0 with
    | false =>
      go_enter Tryz.func38, Tryz.ntmps38
      go_upto_region 1 with fail
      rw [← hw1] at hP hQ hB ⊢
      clear hw1
      obtain ⟨q0, q1, q2, q3, q4, q5, q6, q7, qf⟩ := hQ.eight
      obtain ⟨t0, t1, t2, t3, t4, t5, tf⟩ := hP.six
      go_quiet ((go_at_call 15; first | (with_reducible exact quiet_left (Cv.out _)) | (with_reducible exact quiet_left (Ce.out _))))
      go_wp2_with (first | (go_at_call 15; with_reducible refine (Ct0.out _).mono ?_; rintro e w' ⟨rfl, rfl⟩))
      go_ret
      exact Yn.no (fun h => by have := Ht0.out.2 h.2.1; cases this) (below_drewN _ hB)
    | true =>
      go_enter Tryz.func38, Tryz.ntmps38
      go_upto_region 1 with fail
      rw [← hw1] at hP hQ hB ⊢
      clear hw1
      obtain ⟨q0, q1, q2, q3, q4, q5, q6, q7, qf⟩ := hQ.eight
      obtain ⟨t0, t1, t2, t3, t4, t5, tf⟩ := hP.six
      go_quiet ((go_at_call 15; first | (with_reducible exact quiet_left (Cv.out _)) | (with_reducible exact quiet_left (Ce.out _))))
      go_wp2_with (first | (go_at_call 15; with_reducible refine (Ct0.out _).mono ?_; rintro e w' ⟨rfl, rfl⟩) | (go_at_call 60; refine (CU.out _).mono ?_; rintro e w3 ⟨r, rfl, hr, hb3⟩))
      go_ret
      exact ⟨r, rfl, Lib.hid ⟨fun h => ⟨He.out.1 (by first | rfl | trivial), Ht0.out.1 (by first | rfl | trivial), hr.out.1 h⟩, fun h => hr.out.2 h.2.2⟩, (below_drewN _ hB).trans (hb3.mono (below_drewN _ hB).size)⟩

set_option maxRecDepth 100000 in
set_option maxHeartbeats 3200000 in
theorem specStCall_any (lo lo' : Nat) (P : Prg) (s : Stm) (Av Ax As Ap Ab A3 A4 A5 : Option Addr) (cv cx cs cp cb c3 c4 c5 : Nat) (w : World) (_hs : s.small) (hV : VarsOk P) (hnx : P.nx ≤ 1048576) (hnp : P.np ≤ 1048576) (_h : VrAt lo w Av P.nv P.vn P.vz) (_h3 : ChAt lo' w A3 s.nc s.ch) (hk : s.kind = 8) :
    Calls Tryz.prog 38 #[.agg #[.slice Av P.nv cv, .slice Ax P.nx cx, .slice As P.ns cs, .slice Ap P.np cp, .slice Ab P.nb cb, .int .i64 P.fuel], .agg #[.int .i64 s.kind, .int .i64 s.var, .int .i64 s.ex, .slice A3 s.nc c3, .slice A4 s.nt c4, .slice A5 s.ne c5, .int .i64 s.times, .int .i64 s.proc]] w (Yn ((0 ≤ s.proc ∧ s.proc ≤ (P.np : Int) - 1) ∧ Uses s false false false true false false) w) := by
  have hP := (Box.new w 37 #[.slice Av P.nv cv, .slice Ax P.nx cx, .slice As P.ns cs, .slice Ap P.np cp, .slice Ab P.nb cb, .int .i64 P.fuel]).alloc (.cells #[.int .i64 s.kind, .int .i64 s.var, .int .i64 s.ex, .slice A3 s.nc c3, .slice A4 s.nt c4, .slice A5 s.ne c5, .int .i64 s.times, .int .i64 s.proc] 77)
  have hQ := Box.new (w.alloc (.cells #[.slice Av P.nv cv, .slice Ax P.nx cx, .slice As P.ns cs, .slice Ap P.np cp, .slice Ab P.nb cb, .int .i64 P.fuel] 37)) 77 #[.int .i64 s.kind, .int .i64 s.var, .int .i64 s.ex, .slice A3 s.nc c3, .slice A4 s.nt c4, .slice A5 s.ne c5, .int .i64 s.times, .int .i64 s.proc]
  rw [show (w.alloc (.cells #[.slice Av P.nv cv, .slice Ax P.nx cx, .slice As P.ns cs, .slice Ap P.np cp, .slice Ab P.nb cb, .int .i64 P.fuel] 37)).heap.size = w.heap.size + 1 by simp] at hQ
  have hB : Below w.heap.size w ((w.alloc (.cells #[.slice Av P.nv cv, .slice Ax P.nx cx, .slice As P.ns cs, .slice Ap P.np cp, .slice Ab P.nb cb, .int .i64 P.fuel] 37)).alloc (.cells #[.int .i64 s.kind, .int .i64 s.var, .int .i64 s.ex, .slice A3 s.nc c3, .slice A4 s.nt c4, .slice A5 s.ne c5, .int .i64 s.times, .int .i64 s.proc] 77)) := ((Below.refl _ w).alloc (Nat.le_refl _) _).alloc (by simp) _
  obtain ⟨w1, hw1⟩ : ∃ w1, w1 = (w.alloc (.cells #[.slice Av P.nv cv, .slice Ax P.nx cx, .slice As P.ns cs, .slice Ap P.np cp, .slice Ab P.nb cb, .int .i64 P.fuel] 37)).alloc (.cells #[.int .i64 s.kind, .int .i64 s.var, .int .i64 s.ex, .slice A3 s.nc c3, .slice A4 s.nt c4, .slice A5 s.ne c5, .int .i64 s.times, .int .i64 s.proc] 77) := ⟨_, rfl⟩
  have hnv5 := hV.2.2
  have hw5 : IntKind.i64.wrap ((P.nv : Int) - 1) = (P.nv : Int) - 1 := IntWalk.i64_in _ (by omega)
  have hw6 : IntKind.i64.wrap ((P.nx : Int) - 1) = (P.nx : Int) - 1 := IntWalk.i64_in _ (by omega)
  have hw7 : IntKind.i64.wrap ((P.np : Int) - 1) = (P.np : Int) - 1 := IntWalk.i64_in _ (by omega)
  obtain ⟨bv, hbv⟩ : ∃ b, b = decide (0 ≤ s.var ∧ s.var ≤ ((P.nv : Int) - 1)) := ⟨_, rfl⟩
  have Cv : Hid (∀ W, Calls Tryz.prog 15 #[.int .i64 s.var, .int .i64 0, .int .i64 ((P.nv : Int) - 1)] W fun e w' => e = .returned (.bool bv) ∧ W = w') := Lib.hid fun W => by rw [hbv]; exact in3_any _ _ _ W
  have Hv : Hid (bv = true ↔ (0 ≤ s.var ∧ s.var ≤ (P.nv : Int) - 1)) := Lib.hid (by rw [hbv]; exact decide_eq_true_iff)
  clear hbv
  obtain ⟨be, hbe⟩ : ∃ b, b = decide (0 ≤ s.ex ∧ s.ex ≤ ((P.nx : Int) - 1)) := ⟨_, rfl⟩
  have Ce : Hid (∀ W, Calls Tryz.prog 15 #[.int .i64 s.ex, .int .i64 0, .int .i64 ((P.nx : Int) - 1)] W fun e w' => e = .returned (.bool be) ∧ W = w') := Lib.hid fun W => by rw [hbe]; exact in3_any _ _ _ W
  have He : Hid (be = true ↔ (0 ≤ s.ex ∧ s.ex ≤ (P.nx : Int) - 1)) := Lib.hid (by rw [hbe]; exact decide_eq_true_iff)
  clear hbe
  obtain ⟨bp, hbp⟩ : ∃ b, b = decide (0 ≤ s.proc ∧ s.proc ≤ ((P.np : Int) - 1)) := ⟨_, rfl⟩
  have Cp : Hid (∀ W, Calls Tryz.prog 15 #[.int .i64 s.proc, .int .i64 0, .int .i64 ((P.np : Int) - 1)] W fun e w' => e = .returned (.bool bp) ∧ W = w') := Lib.hid fun W => by rw [hbp]; exact in3_any _ _ _ W
  have Hp : Hid (bp = true ↔ (0 ≤ s.proc ∧ s.proc ≤ (P.np : Int) - 1)) := Lib.hid (by rw [hbp]; exact decide_eq_true_iff)
  clear hbp
  have k1 : (s.kind == 1) = false := by rw [hk]; rfl
  have k2 : (s.kind == 2) = false := by rw [hk]; rfl
  have k3 : (s.kind == 3) = false := by rw [hk]; rfl
  have k4 : (s.kind == 4) = false := by rw [hk]; rfl
  have k5 : (s.kind == 5) = false := by rw [hk]; rfl
  have k6 : (s.kind == 6) = false := by rw [hk]; rfl
  have k7 : (s.kind == 7) = false := by rw [hk]; rfl
  have k8 : (s.kind == 8) = true := by rw [hk]; rfl
  have CU : Hid (∀ W, _) := Lib.hid fun W => usesCall_any s A3 A4 A5 c3 c4 c5 W hk
  clear _h _h3 hk _hs hV
  cases bp with
  | false =>
    go_enter Tryz.func38, Tryz.ntmps38
    go_upto_region 1 with fail
    rw [← hw1] at hP hQ hB ⊢
    clear hw1
    obtain ⟨q0, q1, q2, q3, q4, q5, q6, q7, qf⟩ := hQ.eight
    obtain ⟨t0, t1, t2, t3, t4, t5, tf⟩ := hP.six
    go_quiet ((go_at_call 15; first | (with_reducible exact quiet_left (Cv.out _)) | (with_reducible exact quiet_left (Ce.out _))))
    go_wp2_with (first | (go_at_call 15; with_reducible refine (Cp.out _).mono ?_; rintro e w' ⟨rfl, rfl⟩))
    go_ret
    exact Yn.no (fun h => by have := Hp.out.2 h.1; cases this) (below_drewN _ hB)
  | true =>
    go_enter Tryz.func38, Tryz.ntmps38
    go_upto_region 1 with fail
    rw [← hw1] at hP hQ hB ⊢
    clear hw1
    obtain ⟨q0, q1, q2, q3, q4, q5, q6, q7, qf⟩ := hQ.eight
    obtain ⟨t0, t1, t2, t3, t4, t5, tf⟩ := hP.six
    go_quiet ((go_at_call 15; first | (with_reducible exact quiet_left (Cv.out _)) | (with_reducible exact quiet_left (Ce.out _))))
    go_wp2_with (first | (go_at_call 15; with_reducible refine (Cp.out _).mono ?_; rintro e w' ⟨rfl, rfl⟩) | (go_at_call 60; refine (CU.out _).mono ?_; rintro e w3 ⟨r, rfl, hr, hb3⟩))
    go_ret
    exact ⟨r, rfl, Lib.hid ⟨fun h => ⟨Hp.out.1 (by first | rfl | trivial), hr.out.1 h⟩, fun h => hr.out.2 h.2⟩, (below_drewN _ hB).trans (hb3.mono (below_drewN _ hB).size)⟩

set_option maxRecDepth 100000 in
set_option maxHeartbeats 3200000 in
theorem specStNone_any (lo lo' : Nat) (P : Prg) (s : Stm) (Av Ax As Ap Ab A3 A4 A5 : Option Addr) (cv cx cs cp cb c3 c4 c5 : Nat) (w : World) (_hs : s.small) (hV : VarsOk P) (hnx : P.nx ≤ 1048576) (hnp : P.np ≤ 1048576) (_h : VrAt lo w Av P.nv P.vn P.vz) (_h3 : ChAt lo' w A3 s.nc s.ch) (hk : ¬ (1 ≤ s.kind ∧ s.kind ≤ 8)) :
    Calls Tryz.prog 38 #[.agg #[.slice Av P.nv cv, .slice Ax P.nx cx, .slice As P.ns cs, .slice Ap P.np cp, .slice Ab P.nb cb, .int .i64 P.fuel], .agg #[.int .i64 s.kind, .int .i64 s.var, .int .i64 s.ex, .slice A3 s.nc c3, .slice A4 s.nt c4, .slice A5 s.ne c5, .int .i64 s.times, .int .i64 s.proc]] w (Yn False w) := by
  have hP := (Box.new w 37 #[.slice Av P.nv cv, .slice Ax P.nx cx, .slice As P.ns cs, .slice Ap P.np cp, .slice Ab P.nb cb, .int .i64 P.fuel]).alloc (.cells #[.int .i64 s.kind, .int .i64 s.var, .int .i64 s.ex, .slice A3 s.nc c3, .slice A4 s.nt c4, .slice A5 s.ne c5, .int .i64 s.times, .int .i64 s.proc] 77)
  have hQ := Box.new (w.alloc (.cells #[.slice Av P.nv cv, .slice Ax P.nx cx, .slice As P.ns cs, .slice Ap P.np cp, .slice Ab P.nb cb, .int .i64 P.fuel] 37)) 77 #[.int .i64 s.kind, .int .i64 s.var, .int .i64 s.ex, .slice A3 s.nc c3, .slice A4 s.nt c4, .slice A5 s.ne c5, .int .i64 s.times, .int .i64 s.proc]
  rw [show (w.alloc (.cells #[.slice Av P.nv cv, .slice Ax P.nx cx, .slice As P.ns cs, .slice Ap P.np cp, .slice Ab P.nb cb, .int .i64 P.fuel] 37)).heap.size = w.heap.size + 1 by simp] at hQ
  have hB : Below w.heap.size w ((w.alloc (.cells #[.slice Av P.nv cv, .slice Ax P.nx cx, .slice As P.ns cs, .slice Ap P.np cp, .slice Ab P.nb cb, .int .i64 P.fuel] 37)).alloc (.cells #[.int .i64 s.kind, .int .i64 s.var, .int .i64 s.ex, .slice A3 s.nc c3, .slice A4 s.nt c4, .slice A5 s.ne c5, .int .i64 s.times, .int .i64 s.proc] 77)) := ((Below.refl _ w).alloc (Nat.le_refl _) _).alloc (by simp) _
  obtain ⟨w1, hw1⟩ : ∃ w1, w1 = (w.alloc (.cells #[.slice Av P.nv cv, .slice Ax P.nx cx, .slice As P.ns cs, .slice Ap P.np cp, .slice Ab P.nb cb, .int .i64 P.fuel] 37)).alloc (.cells #[.int .i64 s.kind, .int .i64 s.var, .int .i64 s.ex, .slice A3 s.nc c3, .slice A4 s.nt c4, .slice A5 s.ne c5, .int .i64 s.times, .int .i64 s.proc] 77) := ⟨_, rfl⟩
  have hnv5 := hV.2.2
  have hw5 : IntKind.i64.wrap ((P.nv : Int) - 1) = (P.nv : Int) - 1 := IntWalk.i64_in _ (by omega)
  have hw6 : IntKind.i64.wrap ((P.nx : Int) - 1) = (P.nx : Int) - 1 := IntWalk.i64_in _ (by omega)
  have hw7 : IntKind.i64.wrap ((P.np : Int) - 1) = (P.np : Int) - 1 := IntWalk.i64_in _ (by omega)
  obtain ⟨bv, hbv⟩ : ∃ b, b = decide (0 ≤ s.var ∧ s.var ≤ ((P.nv : Int) - 1)) := ⟨_, rfl⟩
  have Cv : Hid (∀ W, Calls Tryz.prog 15 #[.int .i64 s.var, .int .i64 0, .int .i64 ((P.nv : Int) - 1)] W fun e w' => e = .returned (.bool bv) ∧ W = w') := Lib.hid fun W => by rw [hbv]; exact in3_any _ _ _ W
  have Hv : Hid (bv = true ↔ (0 ≤ s.var ∧ s.var ≤ (P.nv : Int) - 1)) := Lib.hid (by rw [hbv]; exact decide_eq_true_iff)
  clear hbv
  obtain ⟨be, hbe⟩ : ∃ b, b = decide (0 ≤ s.ex ∧ s.ex ≤ ((P.nx : Int) - 1)) := ⟨_, rfl⟩
  have Ce : Hid (∀ W, Calls Tryz.prog 15 #[.int .i64 s.ex, .int .i64 0, .int .i64 ((P.nx : Int) - 1)] W fun e w' => e = .returned (.bool be) ∧ W = w') := Lib.hid fun W => by rw [hbe]; exact in3_any _ _ _ W
  have He : Hid (be = true ↔ (0 ≤ s.ex ∧ s.ex ≤ (P.nx : Int) - 1)) := Lib.hid (by rw [hbe]; exact decide_eq_true_iff)
  clear hbe
  have k1 : (s.kind == 1) = false := by rw [beq_eq_false_iff_ne]; omega
  have k2 : (s.kind == 2) = false := by rw [beq_eq_false_iff_ne]; omega
  have k3 : (s.kind == 3) = false := by rw [beq_eq_false_iff_ne]; omega
  have k4 : (s.kind == 4) = false := by rw [beq_eq_false_iff_ne]; omega
  have k5 : (s.kind == 5) = false := by rw [beq_eq_false_iff_ne]; omega
  have k6 : (s.kind == 6) = false := by rw [beq_eq_false_iff_ne]; omega
  have k7 : (s.kind == 7) = false := by rw [beq_eq_false_iff_ne]; omega
  have k8 : (s.kind == 8) = false := by rw [beq_eq_false_iff_ne]; omega
  clear _h _h3 hk _hs hV
  go_enter Tryz.func38, Tryz.ntmps38
  go_upto_region 1 with fail
  rw [← hw1] at hP hQ hB ⊢
  clear hw1
  obtain ⟨q0, q1, q2, q3, q4, q5, q6, q7, qf⟩ := hQ.eight
  obtain ⟨t0, t1, t2, t3, t4, t5, tf⟩ := hP.six
  go_quiet ((go_at_call 15; first | (with_reducible exact quiet_left (Cv.out _)) | (with_reducible exact quiet_left (Ce.out _))))
  go_wp2_with fail
  go_ret
  exact Yn.no (fun h => h) (below_drewN _ hB)

theorem specSt_any (lo lo' : Nat) (P : Prg) (s : Stm) (Av Ax As Ap Ab A3 A4 A5 : Option Addr) (cv cx cs cp cb c3 c4 c5 : Nat) (w : World) (hs : s.small) (hV : VarsOk P) (hnx : P.nx ≤ 1048576) (hnp : P.np ≤ 1048576) (h : VrAt lo w Av P.nv P.vn P.vz) (h3 : ChAt lo' w A3 s.nc s.ch) :
    Calls Tryz.prog 38 #[.agg #[.slice Av P.nv cv, .slice Ax P.nx cx, .slice As P.ns cs, .slice Ap P.np cp, .slice Ab P.nb cb, .int .i64 P.fuel], .agg #[.int .i64 s.kind, .int .i64 s.var, .int .i64 s.ex, .slice A3 s.nc c3, .slice A4 s.nt c4, .slice A5 s.ne c5, .int .i64 s.times, .int .i64 s.proc]] w (Yn (StOk P s) w) := by
  by_cases k1 : s.kind = 1
  · exact (specStSkip_any lo lo' P s Av Ax As Ap Ab A3 A4 A5 cv cx cs cp cb c3 c4 c5 w hs hV hnx hnp h h3 k1).mono fun _ _ => Yn.of (stOkSkip k1)
  by_cases k2 : s.kind = 2
  · exact (specStAssign_any lo lo' P s Av Ax As Ap Ab A3 A4 A5 cv cx cs cp cb c3 c4 c5 w hs hV hnx hnp h h3 k2).mono fun _ _ => Yn.of (stOkAssign k2)
  by_cases k3 : s.kind = 3
  · exact (specStSample_any lo lo' P s Av Ax As Ap Ab A3 A4 A5 cv cx cs cp cb c3 c4 c5 w hs hV hnx hnp h h3 k3).mono fun _ _ => Yn.of (stOkSample k3)
  by_cases k4 : s.kind = 4
  · exact (specStObs_any lo lo' P s Av Ax As Ap Ab A3 A4 A5 cv cx cs cp cb c3 c4 c5 w hs hV hnx hnp h h3 k4).mono fun _ _ => Yn.of (stOkObs k4)
  by_cases k5 : s.kind = 5
  · exact (specStIf_any lo lo' P s Av Ax As Ap Ab A3 A4 A5 cv cx cs cp cb c3 c4 c5 w hs hV hnx hnp h h3 k5).mono fun _ _ => Yn.of (stOkIf k5)
  by_cases k6 : s.kind = 6
  · exact (specStRep_any lo lo' P s Av Ax As Ap Ab A3 A4 A5 cv cx cs cp cb c3 c4 c5 w hs hV hnx hnp h h3 k6).mono fun _ _ => Yn.of (stOkRep k6)
  by_cases k7 : s.kind = 7
  · exact (specStWhile_any lo lo' P s Av Ax As Ap Ab A3 A4 A5 cv cx cs cp cb c3 c4 c5 w hs hV hnx hnp h h3 k7).mono fun _ _ => Yn.of (stOkWhile k7)
  by_cases k8 : s.kind = 8
  · exact (specStCall_any lo lo' P s Av Ax As Ap Ab A3 A4 A5 cv cx cs cp cb c3 c4 c5 w hs hV hnx hnp h h3 k8).mono fun _ _ => Yn.of (stOkCall k8)
  have hk : ¬ (1 ≤ s.kind ∧ s.kind ≤ 8) := by omega
  exact (specStNone_any lo lo' P s Av Ax As Ap Ab A3 A4 A5 cv cx cs cp cb c3 c4 c5 w hs hV hnx hnp h h3 hk).mono fun _ _ => Yn.of ⟨stOkNone hk, fun h => h.elim⟩

end Go.Proofs.YtoaiejodbmkbjaaGreatDoor
