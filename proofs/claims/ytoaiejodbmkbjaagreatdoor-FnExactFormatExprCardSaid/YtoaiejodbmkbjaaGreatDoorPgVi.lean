/-
  The program's IsValidProgram.
-/
import Derived.Test.YtoaiejodbmkbjaaGreatDoorPgEach
import Derived.Test.YtoaiejodbmkbjaaGreatDoorPgIsD
namespace Go.Proofs.YtoaiejodbmkbjaaGreatDoor
open Go.RowKit Num

set_option maxRecDepth 100000 in
set_option maxHeartbeats 6400000 in
theorem implValid_any (lo : Nat) (P : Prg) (Av Ax As Ap Ab : Option Addr) (cv cx cs cp cb : Nat) (w : World) (hs : P.small) (h : PgAt lo w Av Ax As Ap Ab P) :
    Calls Tryz.prog 23 #[.agg #[.slice Av P.nv cv, .slice Ax P.nx cx, .slice As P.ns cs, .slice Ap P.np cp, .slice Ab P.nb cb, .int .i64 P.fuel]] w (Yn (PgOk P) w) := by
  have hP := Box.new w 37 #[.slice Av P.nv cv, .slice Ax P.nx cx, .slice As P.ns cs, .slice Ap P.np cp, .slice Ab P.nb cb, .int .i64 P.fuel]
  have hB := (Below.refl w.heap.size w).alloc (Nat.le_refl _) (.cells #[.slice Av P.nv cv, .slice Ax P.nx cx, .slice As P.ns cs, .slice Ap P.np cp, .slice Ab P.nb cb, .int .i64 P.fuel] 37)
  obtain ⟨q0, q1, q2, q3, q4, q5, qf⟩ := hP.six
  have H := Lib.hid h
  have HSM := Lib.hid hs
  have CD : Hid (∀ W, Below w.heap.size w W → _) := Lib.hid fun W hW => decl_any lo P Av Ap cv cp W hs (h.v.below hW (Nat.le_refl _)) (h.p.below hW (Nat.le_refl _))
  have hnx := hs.nx
  have hns := hs.ns
  clear h hs
  by_cases hsz : P.ns ≤ 24 ∧ 0 ≤ P.fuel ∧ P.fuel ≤ 3
  · have hd1 : decide ((24 : Int) < (P.ns : Int)) = false := decide_eq_false (by omega)
    have hd2 : decide (P.fuel < 0) = false := decide_eq_false (by omega)
    have hd3 : decide (3 < P.fuel) = false := decide_eq_false (by omega)
    have HSZ := Lib.hid hsz
    clear hsz
    obtain ⟨bx, hbx⟩ : ∃ b, b = exsRes P.ex P.nx (P.nv : Nat) := ⟨_, rfl⟩
    have CX : Hid (∀ W, Below w.heap.size w W → Calls Tryz.prog 48 #[.slice Ax P.nx cx, .int .i64 (P.nv : Nat)] W fun e w' => e = .returned (.bool bx) ∧ Below W.heap.size W w') := Lib.hid fun W hW => by rw [hbx]; exact implExs_any Ax P.nx cx P.ex (P.nv : Nat) W hnx (H.out.x.below hW (Nat.le_refl _)).1
    have HX : Hid (P.nv ≤ 5 → (bx = true ↔ (P.nx ≤ 40 ∧ exsOk P.ex P.nv P.nx = true))) := Lib.hid (fun h5 => by
      rw [hbx, exsRes, decide_eq_true (by omega : (0 : Int) ≤ (P.nv : Nat) ∧ ((P.nv : Nat) : Int) ≤ 5), Bool.true_and, Int.toNat_natCast]
      simp)
    clear hbx
    go_enter Tryz.func23, Tryz.ntmps23
    go_upto_region 3 with fail
    all_goals first
      | (exfalso; simp at hd1; omega)
      | skip
    clear hd1 hd2 hd3
    go_wp2_with (go_at_call 47
                 with_reducible refine (CD.out _ hB).mono ?_
                 rintro e w2 ⟨rd, rfl, hrd, hb⟩
                 clear q0 q1 q2 q3 q4 q5 qf
                 replace hP := hP.below hb hP.lt
                 replace hB := hB.trans (hb.mono hB.size)
                 clear hb
                 obtain ⟨q0, q1, q2, q3, q4, q5, qf⟩ := hP.six)
    rotate_left
    · go_ret
      exact Yn.no (fun h => absurd (hrd.out.2 ⟨h.1, h.2.2.1⟩) (by first | assumption | exact not_tt (by assumption))) hB
    rename rd = true => hopen
    have HD := Lib.hid (hrd.out.1 hopen)
    clear hopen
    go_wp2_with (go_at_call 48
                 with_reducible refine (CX.out _ hB).mono ?_
                 rintro e w3 ⟨rfl, hb⟩
                 clear q0 q1 q2 q3 q4 q5 qf
                 replace hP := hP.below hb hP.lt
                 replace hB := hB.trans (hb.mono hB.size)
                 clear hb
                 obtain ⟨q0, q1, q2, q3, q4, q5, qf⟩ := hP.six)
    · go_ret
      exact Yn.no (fun h => absurd (((HX.out h.1.2.2).2 h.2.1)) (by first | assumption | exact not_tt (by assumption))) hB
    rename (!bx) = false => hopen
    have HXX := Lib.hid ((HX.out HD.out.1.2.2).1 (not_ff hopen))
    clear hopen q0 q1 q2 q3 q4 q5 qf
    rename World => w3
    go_loopg [36] P.ns (fun q iv wr => ∃ k : Nat, k + q = P.ns ∧ iv = .int .i64 (k : Nat) ∧ Hid (∀ j, j < k → StOk P (P.st j) ∧ AftOk P j) ∧ Below w3.heap.size w3 wr)
    case atStart => exact ⟨0, by omega, rfl, Lib.hid fun j h => by omega, Below.refl _ _⟩
    case round =>
      rename World => w4
      obtain ⟨k, hk, rfl, hq, hbel⟩ := hrel
      replace hP := hP.below hbel hP.lt
      replace hB := hB.trans (hbel.mono hB.size)
      obtain ⟨q0, q1, q2, q3, q4, q5, qf⟩ := hP.six
      by_cases hk0 : k < P.ns
      · have C := Lib.hid (implSt_any lo P k Av Ax As Ap Ab cv cx cs cp cb w4 HSM.out HD.out.1 hk0 (H.out.below hB (Nat.le_refl _)))
        go_wp2_with (go_at_call 49; refine C.out.mono ?_; rintro e w5 ⟨r, rfl, hr, hb5⟩)
        all_goals first
          | (go_ret
             exact Yn.no (fun h => absurd (hr.out.2 ⟨h.2.2.2.2.2.1 k hk0, ((once_iff P).2 h.2.2.2.2.2.2).1 k hk0⟩) (by first | assumption | exact not_tt (by assumption))) (hB.trans (hb5.mono hB.size)))
          | (have HR := Lib.hid (hr.out.1 (by first | assumption | exact not_ff (by assumption)))
             go_roundg (gk - 1)
             case rel => exact ⟨k + 1, by omega, by go_num, Lib.hid fun j hj => by
               by_cases hjk : j < k
               · exact hq.out j hjk
               · obtain rfl : j = k := by omega
                 exact HR.out, hbel.trans (hb5.mono hbel.size)⟩
             case measure => omega)
      · obtain rfl : k = P.ns := by omega
        have C := Lib.hid (once_any lo P Av Ax As Ap Ab cv cx cs cp cb w4 HSM.out (H.out.below hB (Nat.le_refl _)))
        go_wp2_with (go_at_call 50; refine C.out.mono ?_; rintro e w5 ⟨r, rfl, hr, hb5⟩)
        go_ret
        exact ⟨r, rfl, Lib.hid ⟨fun h => ⟨HD.out.1, HXX.out, HD.out.2, HSZ.out.1, HSZ.out.2, fun j hj => (hq.out j hj).1, (once_iff P).1 ⟨fun j hj => (hq.out j hj).2, hr.out.1 h⟩⟩, fun h => hr.out.2 ((once_iff P).2 h.2.2.2.2.2.2).2⟩, hB.trans (hb5.mono hB.size)⟩
  · have HZ := Lib.hid hsz
    have hz : decide ((24 : Int) < (P.ns : Int)) = true ∨ (decide ((24 : Int) < (P.ns : Int)) = false ∧ decide (P.fuel < 0) = true) ∨ (decide ((24 : Int) < (P.ns : Int)) = false ∧ decide (P.fuel < 0) = false ∧ decide (3 < P.fuel) = true) := by
      by_cases h : 24 < P.ns
      · exact .inl (decide_eq_true (by omega))
      · by_cases h5 : P.fuel < 0
        · exact .inr (.inl ⟨decide_eq_false (by omega), decide_eq_true h5⟩)
        · exact .inr (.inr ⟨decide_eq_false (by omega), decide_eq_false h5, decide_eq_true (by omega)⟩)
    clear hsz
    rcases hz with h1 | ⟨h1, h2⟩ | ⟨h1, h2, h3⟩
    all_goals go_enter Tryz.func23, Tryz.ntmps23
    all_goals go_wp2_with fail
    all_goals first
      | (go_ret
         exact Yn.no (fun h => HZ.out ⟨h.2.2.2.1, h.2.2.2.2.1⟩) hB)
      | (exfalso; simp at h1; omega)

end Go.Proofs.YtoaiejodbmkbjaaGreatDoor
