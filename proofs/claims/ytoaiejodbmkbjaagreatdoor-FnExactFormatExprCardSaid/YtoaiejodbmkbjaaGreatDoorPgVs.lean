/-
  The model's IsValidProgram. (Written by gen_pgvs.py.)
-/
import Derived.Test.YtoaiejodbmkbjaaGreatDoorPgBlk
namespace Go.Proofs.YtoaiejodbmkbjaaGreatDoor
open Go.RowKit Num

/-- A program is valid. -/
def PgOk (P : Prg) : Prop := VarsOk P ∧ (P.nx ≤ 40 ∧ exsOk P.ex P.nv P.nx = true) ∧ ProcsOk P ∧ P.ns ≤ 24 ∧ (0 ≤ P.fuel ∧ P.fuel ≤ 3) ∧ (∀ j, j < P.ns → StOk P (P.st j)) ∧ BlocksOk P

set_option maxRecDepth 100000 in
set_option maxHeartbeats 6400000 in
theorem specVal_any (lo : Nat) (P : Prg) (Av Ax As Ap Ab : Option Addr) (cv cx cs cp cb : Nat) (w : World) (hs : P.small) (hcv : P.nv ≤ cv) (hcp : P.np ≤ cp) (h : PgAt lo w Av Ax As Ap Ab P) :
    Calls Tryz.prog 14 #[.agg #[.slice Av P.nv cv, .slice Ax P.nx cx, .slice As P.ns cs, .slice Ap P.np cp, .slice Ab P.nb cb, .int .i64 P.fuel]] w (Yn (PgOk P) w) := by
  have hP := Box.new w 37 #[.slice Av P.nv cv, .slice Ax P.nx cx, .slice As P.ns cs, .slice Ap P.np cp, .slice Ab P.nb cb, .int .i64 P.fuel]
  have hB := (Below.refl w.heap.size w).alloc (Nat.le_refl _) (.cells #[.slice Av P.nv cv, .slice Ax P.nx cx, .slice As P.ns cs, .slice Ap P.np cp, .slice Ab P.nb cb, .int .i64 P.fuel] 37)
  obtain ⟨q0, q1, q2, q3, q4, q5, qf⟩ := hP.six
  have H := Lib.hid h
  have HSM := Lib.hid hs
  have C1 : Hid (∀ W, Below w.heap.size w W → _) := Lib.hid fun W hW => specVars_any lo P Av Ax As Ap Ab cv cx cs cp cb W hs hcv (h.below hW (Nat.le_refl _))
  have C3 : Hid (∀ W, Below w.heap.size w W → _) := Lib.hid fun W hW => specProcs_any lo P Av Ax As Ap Ab cv cx cs cp cb W hs hcp (h.below hW (Nat.le_refl _))
  have hnx := hs.nx
  have hnp := hs.np
  have hns := hs.ns
  clear h hs
  go_enter Tryz.func14, Tryz.ntmps14
  go_wp2_with (go_at_call 35
               with_reducible refine (C1.out _ hB).mono ?_
               rintro e w1 ⟨r1, rfl, hr1, hb⟩
               clear q0 q1 q2 q3 q4 q5 qf
               replace hP := hP.below hb hP.lt
               replace hB := hB.trans (hb.mono hB.size)
               clear hb
               obtain ⟨q0, q1, q2, q3, q4, q5, qf⟩ := hP.six)
  rotate_left
  · go_ret
    exact Yn.no (fun h => absurd (hr1.out.2 h.1) (by first | assumption | exact not_tt (by assumption))) hB
  rename r1 = true => hopen
  have F1 := Lib.hid hopen
  clear hopen
  have hV := hr1.out.1 F1.out
  have hnv5 := hV.2.2
  have HV := Lib.hid hV
  clear hV
  obtain ⟨bx, hbx⟩ : ∃ b, b = (decide (P.nx ≤ 40) && exsOk P.ex P.nv P.nx) := ⟨_, rfl⟩
  have C2 : Hid (∀ W, Below w.heap.size w W → Calls Tryz.prog 36 #[.slice Ax P.nx cx, .int .i64 (P.nv : Nat)] W fun e w' => e = .returned (.bool bx) ∧ Below W.heap.size W w') := Lib.hid fun W hW => by rw [hbx]; exact specExs_any Ax P.nx cx P.ex P.nv W hnx hnv5 (H.out.x.below hW (Nat.le_refl _)).1
  have hr2 : Hid (bx = true ↔ (P.nx ≤ 40 ∧ exsOk P.ex P.nv P.nx = true)) := Lib.hid (by rw [hbx]; simp)
  clear hbx
  go_wp2_with (go_at_call 36
               with_reducible refine (C2.out _ hB).mono ?_
               rintro e w2 ⟨rfl, hb⟩
               clear q0 q1 q2 q3 q4 q5 qf
               replace hP := hP.below hb hP.lt
               replace hB := hB.trans (hb.mono hB.size)
               clear hb
               obtain ⟨q0, q1, q2, q3, q4, q5, qf⟩ := hP.six)
  rotate_left
  · go_ret
    exact Yn.no (fun h => absurd (hr2.out.2 h.2.1) (by first | assumption | exact not_tt (by assumption))) hB
  rename bx = true => hopen
  have F2 := Lib.hid hopen
  clear hopen
  go_wp2_with (go_at_call 37
               with_reducible refine (C3.out _ hB).mono ?_
               rintro e w3 ⟨r3, rfl, hr3, hb⟩
               clear q0 q1 q2 q3 q4 q5 qf
               replace hP := hP.below hb hP.lt
               replace hB := hB.trans (hb.mono hB.size)
               clear hb
               obtain ⟨q0, q1, q2, q3, q4, q5, qf⟩ := hP.six)
  all_goals first
    | (go_ret
       first
         | exact Yn.no (fun h => absurd (hr3.out.2 h.2.2.1) (by first | assumption | exact not_tt (by assumption))) hB
         | exact Yn.no (fun h => by have := h.2.2.2.1; omega) hB)
    | skip
  have hns24 : P.ns ≤ 24 := by omega
  rename r3 = true => hopen
  have F3 := Lib.hid hopen
  clear hopen
  rename (P.ns : Int) ≤ 24 => hopen
  clear hopen
  have HPr := Lib.hid (hr3.out.1 F3.out)
  have hnp3 := HPr.out.2
  obtain ⟨bf, hbf⟩ : ∃ b, b = decide (0 ≤ P.fuel ∧ P.fuel ≤ 3) := ⟨_, rfl⟩
  have CF : Hid (∀ W, Calls Tryz.prog 15 #[.int .i64 P.fuel, .int .i64 0, .int .i64 3] W fun e w' => e = .returned (.bool bf) ∧ W = w') := Lib.hid fun W => by rw [hbf]; exact in3_any _ _ _ W
  have hrf : Hid (bf = true ↔ (0 ≤ P.fuel ∧ P.fuel ≤ 3)) := Lib.hid (by rw [hbf]; exact decide_eq_true_iff)
  clear hbf
  have hd2 : decide ((24 : Int) < (P.ns : Int)) = false := decide_eq_false (by omega)
  have hd1 : ¬ ((24 : Int) < (P.ns : Int)) := by omega
  go_wp2_with (go_at_call 15; refine (CF.out _).mono ?_; rintro e w' ⟨rfl, rfl⟩)
  all_goals first
    | (go_ret
       exact Yn.no (fun h => absurd (hrf.out.2 h.2.2.2.2.1) (by first | assumption | exact not_tt (by assumption))) hB)
    | skip
  rename (!bf) = false => hopen
  have Ff := Lib.hid (not_ff hopen)
  clear hopen hd1 hd2
  have HN24 := Lib.hid hns24
  clear hns24
  rename World => w3
  clear q0 q1 q2 q3 q4 q5 qf
  go_loopg [37] P.ns (fun q iv wr => ∃ k : Nat, k + q = P.ns ∧ iv = .int .i64 (k : Nat) ∧ Hid (∀ j, j < k → StOk P (P.st j)) ∧ Below w3.heap.size w3 wr)
  case atStart => exact ⟨0, by omega, rfl, Lib.hid fun j h => by omega, Below.refl _ _⟩
  case round =>
    rename World => w4
    obtain ⟨k, hk, rfl, hq, hbel⟩ := hrel
    replace hP := hP.below hbel hP.lt
    replace hB := hB.trans (hbel.mono hB.size)
    obtain ⟨q0, q1, q2, q3, q4, q5, qf⟩ := hP.six
    by_cases hk0 : k < P.ns
    · have hPg := H.out.below hB (Nat.le_refl _)
      obtain ⟨b, off, A3, c3, A4, c4, A5, c5, rfl, hb, r0, r1', r2, r3', r4, r5, r6, r7, g3, g4, g5⟩ := hPg.s.at_ hk0
      have hal := (Below.refl w4.heap.size w4).alloc (Nat.le_refl _) (.cells #[.int .i64 (P.st k).kind, .int .i64 (P.st k).var, .int .i64 (P.st k).ex, .slice A3 (P.st k).nc c3, .slice A4 (P.st k).nt c4, .slice A5 (P.st k).ne c5, .int .i64 (P.st k).times, .int .i64 (P.st k).proc] 77)
      have hV8 := Box.new w4 77 #[.int .i64 (P.st k).kind, .int .i64 (P.st k).var, .int .i64 (P.st k).ex, .slice A3 (P.st k).nc c3, .slice A4 (P.st k).nt c4, .slice A5 (P.st k).ne c5, .int .i64 (P.st k).times, .int .i64 (P.st k).proc]
      obtain ⟨v0, v1, v2, v3, v4, v5, v6, v7, vf⟩ := hV8.eight
      have hP5 := hP.below hal hP.lt
      obtain ⟨p0, p1, p2, p3, p4, p5, pf⟩ := hP5.six
      have C := Lib.hid (specSt_any lo lo P (P.st k) Av Ax (some ⟨b, off, none⟩) Ap Ab A3 A4 A5 cv cx cs cp cb c3 c4 c5 _ (HSM.out.st k hk0) HV.out hnx hnp (hPg.v.below hal (Nat.le_refl _)) (g3.below hal (Nat.le_refl _)))
      clear hPg g3 g4 g5
      go_wp2_with (go_at_call 38; refine C.out.mono ?_; rintro e w5 ⟨r, rfl, hr, hb5⟩)
      all_goals first
        | (go_ret
           exact Yn.no (fun h => absurd (hr.out.2 (h.2.2.2.2.2.1 k hk0)) (by first | assumption | exact not_tt (by assumption))) (hB.trans ((hal.trans (hb5.mono hal.size)).mono hB.size)))
        | (have HR := Lib.hid (hr.out.1 (by first | assumption | exact not_ff (by assumption)))
           go_roundg (gk - 1)
           case rel => exact ⟨k + 1, by omega, by go_num, Lib.hid fun j hj => by
             by_cases hjk : j < k
             · exact hq.out j hjk
             · obtain rfl : j = k := by omega
               exact HR.out, hbel.trans ((hal.trans (hb5.mono hal.size)).mono hbel.size)⟩
           case measure => omega)
    · obtain rfl : k = P.ns := by omega
      go_wp2_with (go_at_call 39; refine (specBlk_any lo P Av Ax As Ap Ab cv cx cs cp cb _ HSM.out hnp3 HN24.out (H.out.below hB (Nat.le_refl _))).mono ?_; rintro e w5 ⟨r, rfl, hr, hb5⟩)
      go_ret
      exact ⟨r, rfl, Lib.hid ⟨fun h => ⟨HV.out, hr2.out.1 F2.out, HPr.out, HN24.out, hrf.out.1 Ff.out, hq.out, hr.out.1 h⟩, fun h => hr.out.2 h.2.2.2.2.2.2⟩, hB.trans (hb5.mono hB.size)⟩

end Go.Proofs.YtoaiejodbmkbjaaGreatDoor
