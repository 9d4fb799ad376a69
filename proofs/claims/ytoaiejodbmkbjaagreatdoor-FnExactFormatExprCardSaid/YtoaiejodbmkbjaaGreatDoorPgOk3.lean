/-
  The model's test of a statement's choices.
-/
import Derived.Test.YtoaiejodbmkbjaaGreatDoorPgOk2
namespace Go.Proofs.YtoaiejodbmkbjaaGreatDoor
open Go.RowKit Num

/-- Choice j is sound for a variable of that size. -/
def ChOk (s : Stm) (sz : Int) (j : Nat) : Prop := (0 ≤ (s.ch j).1 ∧ (s.ch j).1 ≤ sz - 1) ∧ (1 ≤ (s.ch j).2 ∧ (s.ch j).2 ≤ 12) ∧ (0 < j → (s.ch (j - 1)).1 < (s.ch j).1)
def ChsOk (s : Stm) (sz : Int) : Prop := (∀ j, j < s.nc → ChOk s sz j) ∧ 0 < s.nc

set_option maxRecDepth 100000 in
set_option maxHeartbeats 3200000 in
theorem specChs_any (lo lo' : Nat) (P : Prg) (s : Stm) (v : Nat) (Av Ax As Ap Ab A3 A4 A5 : Option Addr) (cv cx cs cp cb c3 c4 c5 : Nat) (w : World) (hs : s.small) (hv : s.var = (v : Nat)) (hvn : v < P.nv) (_hnv : P.nv ≤ 5) (hsz : 2 ≤ P.vz v ∧ P.vz v ≤ 4) (h : VrAt lo w Av P.nv P.vn P.vz) (h3 : ChAt lo' w A3 s.nc s.ch) :
    Calls Tryz.prog 61 #[.agg #[.slice Av P.nv cv, .slice Ax P.nx cx, .slice As P.ns cs, .slice Ap P.np cp, .slice Ab P.nb cb, .int .i64 P.fuel], .agg #[.int .i64 s.kind, .int .i64 s.var, .int .i64 s.ex, .slice A3 s.nc c3, .slice A4 s.nt c4, .slice A5 s.ne c5, .int .i64 s.times, .int .i64 s.proc]] w (Yn (ChsOk s (P.vz v)) w) := by
  rw [hv]
  have hP := (Box.new w 37 #[.slice Av P.nv cv, .slice Ax P.nx cx, .slice As P.ns cs, .slice Ap P.np cp, .slice Ab P.nb cb, .int .i64 P.fuel]).alloc (.cells #[.int .i64 s.kind, .int .i64 v, .int .i64 s.ex, .slice A3 s.nc c3, .slice A4 s.nt c4, .slice A5 s.ne c5, .int .i64 s.times, .int .i64 s.proc] 77)
  have hQ := Box.new (w.alloc (.cells #[.slice Av P.nv cv, .slice Ax P.nx cx, .slice As P.ns cs, .slice Ap P.np cp, .slice Ab P.nb cb, .int .i64 P.fuel] 37)) 77 #[.int .i64 s.kind, .int .i64 v, .int .i64 s.ex, .slice A3 s.nc c3, .slice A4 s.nt c4, .slice A5 s.ne c5, .int .i64 s.times, .int .i64 s.proc]
  rw [show (w.alloc (.cells #[.slice Av P.nv cv, .slice Ax P.nx cx, .slice As P.ns cs, .slice Ap P.np cp, .slice Ab P.nb cb, .int .i64 P.fuel] 37)).heap.size = w.heap.size + 1 by simp] at hQ
  have hB : Below w.heap.size w ((w.alloc (.cells #[.slice Av P.nv cv, .slice Ax P.nx cx, .slice As P.ns cs, .slice Ap P.np cp, .slice Ab P.nb cb, .int .i64 P.fuel] 37)).alloc (.cells #[.int .i64 s.kind, .int .i64 v, .int .i64 s.ex, .slice A3 s.nc c3, .slice A4 s.nt c4, .slice A5 s.ne c5, .int .i64 s.times, .int .i64 s.proc] 77)) := ((Below.refl _ w).alloc (Nat.le_refl _) _).alloc (by simp) _
  obtain ⟨q0, q1, q2, q3, q4, q5, q6, q7, qf⟩ := hQ.eight
  have HV := Lib.hid h
  have HC := Lib.hid h3
  have hnc := hs.nc
  clear h h3 hs hv
  go_enter Tryz.func61, Tryz.ntmps61
  go_wp2_with fail
  clear q0 q1 q2 q3 q4 q5 q6 q7 qf
  obtain ⟨w1, hw1⟩ : ∃ w1, w1 = (w.alloc (.cells #[.slice Av P.nv cv, .slice Ax P.nx cx, .slice As P.ns cs, .slice Ap P.np cp, .slice Ab P.nb cb, .int .i64 P.fuel] 37)).alloc (.cells #[.int .i64 s.kind, .int .i64 v, .int .i64 s.ex, .slice A3 s.nc c3, .slice A4 s.nt c4, .slice A5 s.ne c5, .int .i64 s.times, .int .i64 s.proc] 77) := ⟨_, rfl⟩
  rw [← hw1] at hP hQ hB ⊢
  clear hw1
  go_loopg [10] s.nc (fun q iv wr => ∃ k : Nat, k + q = s.nc ∧ iv = .int .i64 (k : Nat) ∧ Hid (∀ j, j < k → ChOk s (P.vz v) j) ∧ Below w1.heap.size w1 wr)
  case atStart => exact ⟨0, by omega, rfl, Lib.hid fun j h => by omega, Below.refl _ _⟩
  case round =>
    rename World => w2
    obtain ⟨k, hk, rfl, hq, hbel⟩ := hrel
    replace hP := hP.below hbel hP.lt
    replace hQ := hQ.below hbel hQ.lt
    replace hB := hB.trans (hbel.mono hB.size)
    by_cases hk0 : k < s.nc
    · obtain ⟨b, off, rfl, hb, r0, r1⟩ := (HC.out.below hB (Nat.le_refl _)).at_ hk0
      have hal := (Below.refl w2.heap.size w2).alloc (Nat.le_refl _) (.cells #[.int .i64 (s.ch k).1, .int .i64 (s.ch k).2] 119)
      go_upto_region 4 with fail
      have hV := Box.new w2 119 #[.int .i64 (s.ch k).1, .int .i64 (s.ch k).2]
      replace hP := hP.below hal hP.lt
      replace hQ := hQ.below hal hQ.lt
      replace hB := hB.trans (hal.mono hB.size)
      replace hbel := hbel.trans (hal.mono hbel.size)
      have hAl := HC.out.below hB (Nat.le_refl _)
      obtain ⟨w3, hw3⟩ : ∃ w3, w3 = w2.alloc (.cells #[.int .i64 (s.ch k).1, .int .i64 (s.ch k).2] 119) := ⟨_, rfl⟩
      rw [← hw3] at hV hP hQ hB hbel hAl ⊢
      clear hw3 hal r0 r1
      obtain ⟨v0, v1, _, _⟩ := hV.two
      obtain ⟨q0, q1, q2, q3, q4, q5, q6, q7, qf⟩ := hQ.eight
      obtain ⟨t0, t1, t2, t3, t4, t5, tf⟩ := hP.six
      obtain ⟨b2, off2, rfl, hb2, s0, s1⟩ := (HV.out.below hB (Nat.le_refl _)).at_ hvn
      have hwz : IntKind.i64.wrap (P.vz v - 1) = P.vz v - 1 := IntWalk.i64_in _ (by omega)
      cases e1 : decide (0 ≤ (s.ch k).1 ∧ (s.ch k).1 ≤ P.vz v - 1) with
      | false =>
        have C1 : Hid (∀ W, Calls Tryz.prog 15 #[.int .i64 (s.ch k).1, .int .i64 0, .int .i64 (P.vz v - 1)] W fun e w' => e = .returned (.bool false) ∧ W = w') := Lib.hid fun W => by rw [← e1]; exact in3_any _ _ _ W
        have E1 := Lib.hid (of_decide_eq_false e1)
        clear e1
        go_quiet ((go_at_call 15; exact quiet_left (C1.out _)))
        go_wp2_with fail
        go_ret
        exact Yn.no (fun h => E1.out (h.1 k hk0).1) (below_drewN _ hB)
      | true =>
        have C1 : Hid (∀ W, Calls Tryz.prog 15 #[.int .i64 (s.ch k).1, .int .i64 0, .int .i64 (P.vz v - 1)] W fun e w' => e = .returned (.bool true) ∧ W = w') := Lib.hid fun W => by rw [← e1]; exact in3_any _ _ _ W
        have E1 := Lib.hid (of_decide_eq_true e1)
        clear e1
        cases e2 : decide (1 ≤ (s.ch k).2 ∧ (s.ch k).2 ≤ 12) with
        | false =>
          have C2 : Hid (∀ W, Calls Tryz.prog 15 #[.int .i64 (s.ch k).2, .int .i64 1, .int .i64 12] W fun e w' => e = .returned (.bool false) ∧ W = w') := Lib.hid fun W => by rw [← e2]; exact in3_any _ _ _ W
          have E2 := Lib.hid (of_decide_eq_false e2)
          clear e2
          go_quiet ((go_at_call 15; first | (with_reducible exact quiet_left (C1.out _)) | (with_reducible exact quiet_left (C2.out _))))
          go_wp2_with fail
          go_ret
          exact Yn.no (fun h => E2.out (h.1 k hk0).2.1) (below_drewN _ hB)
        | true =>
          have C2 : Hid (∀ W, Calls Tryz.prog 15 #[.int .i64 (s.ch k).2, .int .i64 1, .int .i64 12] W fun e w' => e = .returned (.bool true) ∧ W = w') := Lib.hid fun W => by rw [← e2]; exact in3_any _ _ _ W
          have E2 := Lib.hid (of_decide_eq_true e2)
          clear e2
          by_cases hz : k = 0
          · subst hz
            go_quiet ((go_at_call 15; first | (with_reducible exact quiet_left (C1.out _)) | (with_reducible exact quiet_left (C2.out _))))
            go_wp2_with fail
            go_roundg (gk - 1)
            case rel => exact ⟨1, by omega, by go_num, Lib.hid fun j hj => by
              obtain rfl : j = 0 := by omega
              exact ⟨E1.out, E2.out, fun h => absurd h (Nat.lt_irrefl 0)⟩, below_drewN _ hbel⟩
            case measure => omega
          · obtain ⟨m, rfl⟩ : ∃ m, k = m + 1 := ⟨k - 1, by omega⟩
            obtain ⟨b3, off3, e3, hb3, p0, p1⟩ := hAl.at_ (show m < s.nc by omega)
            injection e3 with e3
            injection e3 with e4 e5 _
            subst e4 e5
            have hwk : IntKind.i64.wrap ((m : Int) + 1 - 1) = (m : Int) := IntWalk.i64_in _ (by omega) |>.trans (by omega)
            have hwk2 : IntKind.i64.wrap (m : Int) = (m : Int) := IntWalk.i64_in _ (by omega)
            have hpos : decide ((0 : Int) < (m : Int) + 1) = true := decide_eq_true (by omega)
            have hmn : m < s.nc := by omega
            have hmz : (0 : Int) ≤ (m : Int) := by omega
            have hmi : (m : Int) < (s.nc : Int) := by omega
            clear hz
            cases e6 : decide ((s.ch (m + 1)).1 ≤ (s.ch m).1) with
            | true =>
              have E6 := Lib.hid (of_decide_eq_true e6)
              go_quiet ((go_at_call 15; first | (with_reducible exact quiet_left (C1.out _)) | (with_reducible exact quiet_left (C2.out _))))
              go_wp2_with fail
              go_ret
              exact Yn.no (fun h => by have h1 := (h.1 (m + 1) hk0).2.2 (by omega); rw [Nat.add_sub_cancel] at h1; have := E6.out; omega) (below_drewN _ hB)
            | false =>
              have E6 := Lib.hid (of_decide_eq_false e6)
              go_quiet ((go_at_call 15; first | (with_reducible exact quiet_left (C1.out _)) | (with_reducible exact quiet_left (C2.out _))))
              go_wp2_with fail
              go_roundg (gk - 1)
              case rel => exact ⟨m + 2, by omega, by go_num, Lib.hid fun j hj => by
                by_cases hjk : j < m + 1
                · exact hq.out j hjk
                · obtain rfl : j = m + 1 := by omega
                  exact ⟨E1.out, E2.out, fun _ => by have := E6.out; rw [Nat.add_sub_cancel]; omega⟩, below_drewN _ hbel⟩
              case measure => omega
    · obtain rfl : k = s.nc := by omega
      obtain ⟨q0, q1, q2, q3, q4, q5, q6, q7, qf⟩ := hQ.eight
      go_wp2_with fail
      go_ret
      exact ⟨_, rfl, Lib.hid ⟨fun h => ⟨hq.out, by simp at h; omega⟩, fun h => by have := h.2; simp; omega⟩, hB⟩

end Go.Proofs.YtoaiejodbmkbjaaGreatDoor
