/-
  Values for a program's variables: the model's and the program's test that they fit.
-/
import Derived.Test.YtcdgbjklfmlhkaaPgVi
namespace Go.Proofs.Ytcdgbjklfmlhkaa
open Go.RowKit Num

/-- The values fit the variables. -/
def ValsOk (P : Prg) (n : Nat) (f : Nat → Int) : Prop := n = P.nv ∧ ∀ j, j < n → 0 ≤ f j ∧ f j < P.vz j

set_option maxRecDepth 100000 in
set_option maxHeartbeats 3200000 in
theorem implVals_any (lo lo' : Nat) (P : Prg) (Av Aw : Option Addr) (cv cw n : Nat) (f : Nat → Int) (w : World) (hv : VarsOk P) (hn : n ≤ 1048576) (h : VrAt lo w Av P.nv P.vn P.vz) (hi : IntsAt lo' w Aw n f) :
    Calls Try.prog 56 #[.slice Av P.nv cv, .slice Aw n cw] w (Yn (ValsOk P n f) w) := by
  have H := Lib.hid h
  have HI := Lib.hid hi
  have hnv := hv.2.2
  clear h hi hv
  by_cases hnm : n = P.nv
  · have hne : ((n : Int) != (P.nv : Int)) = false := by simp [hnm]
    have HNM := Lib.hid hnm
    have hnn : n ≤ P.nv := by omega
    clear hnm
    go_enter Try.func56, Try.ntmps56
    go_wp2_with fail
    clear hne
    go_loopg [14] n (fun q iv wr => ∃ k : Nat, k + q = n ∧ iv = .int .i64 (k : Nat) ∧ Hid (∀ j, j < k → 0 ≤ f j ∧ f j < P.vz j) ∧ Below w.heap.size w wr)
    case atStart => exact ⟨0, by omega, rfl, Lib.hid fun j h => by omega, Below.refl _ _⟩
    case round =>
      obtain ⟨k, hk, rfl, hq, hbel⟩ := hrel
      by_cases hk0 : k < n
      · obtain ⟨b, off, rfl, hb, r0, r1⟩ := (H.out.below hbel (Nat.le_refl _)).at_ (show k < P.nv by omega)
        obtain ⟨b', off', rfl, hb', s0⟩ := (HI.out.below hbel (Nat.le_refl _)).at_ hk0
        have CI : Hid (∀ W, _) := Lib.hid fun W => idx_any (f k) (P.vz k) W
        cases hz : decide (0 ≤ f k ∧ f k < P.vz k) with
        | false =>
          rw [hz] at CI
          have HZ := Lib.hid (of_decide_eq_false hz)
          clear hz
          go_wp2_with (go_at_call 55; refine (CI.out _).mono ?_; rintro e w' ⟨rfl, rfl⟩)
          go_ret
          exact Yn.no (fun h => HZ.out (h.2 k hk0)) hbel
        | true =>
          rw [hz] at CI
          have HZ := Lib.hid (of_decide_eq_true hz)
          clear hz
          go_wp2_with (go_at_call 55; refine (CI.out _).mono ?_; rintro e w' ⟨rfl, rfl⟩)
          go_roundg (gk - 1)
          case rel => exact ⟨k + 1, by omega, by go_num, Lib.hid fun j hj => by
            by_cases hjk : j < k
            · exact hq.out j hjk
            · obtain rfl : j = k := by omega
              exact HZ.out, hbel⟩
          case measure => omega
      · obtain rfl : k = n := by omega
        go_wp2_with fail
        go_ret
        exact Yn.yes ⟨HNM.out, hq.out⟩ hbel
  · have hne : ((n : Int) != (P.nv : Int)) = true := by simp; omega
    have HNM := Lib.hid hnm
    clear hnm
    go_enter Try.func56, Try.ntmps56
    go_wp2_with fail
    go_ret
    exact Yn.no (fun h => HNM.out h.1) (Below.refl _ _)

set_option maxRecDepth 100000 in
set_option maxHeartbeats 3200000 in
theorem specVals_any (lo lo' : Nat) (P : Prg) (Av Ax As Ap Ab Aw : Option Addr) (cv cx cs cp cb cw n : Nat) (f : Nat → Int) (w : World) (hv : VarsOk P) (hn : n ≤ 1048576) (h : VrAt lo w Av P.nv P.vn P.vz) (hi : IntsAt lo' w Aw n f) :
    Calls Try.prog 48 #[.agg #[.slice Av P.nv cv, .slice Ax P.nx cx, .slice As P.ns cs, .slice Ap P.np cp, .slice Ab P.nb cb, .int .i64 P.fuel], .slice Aw n cw] w (Yn (ValsOk P n f) w) := by
  have hP := Box.new w 37 #[.slice Av P.nv cv, .slice Ax P.nx cx, .slice As P.ns cs, .slice Ap P.np cp, .slice Ab P.nb cb, .int .i64 P.fuel]
  have hB := (Below.refl w.heap.size w).alloc (Nat.le_refl _) (.cells #[.slice Av P.nv cv, .slice Ax P.nx cx, .slice As P.ns cs, .slice Ap P.np cp, .slice Ab P.nb cb, .int .i64 P.fuel] 37)
  obtain ⟨q0, q1, q2, q3, q4, q5, qf⟩ := hP.six
  have H := Lib.hid h
  have HI := Lib.hid hi
  have HV := Lib.hid hv
  have hnv := hv.2.2
  clear h hi hv
  go_enter Try.func48, Try.ntmps48
  go_wp2_with fail
  clear q0 q1 q2 q3 q4 q5 qf
  obtain ⟨w1, hw1⟩ : ∃ w1, w1 = w.alloc (.cells #[.slice Av P.nv cv, .slice Ax P.nx cx, .slice As P.ns cs, .slice Ap P.np cp, .slice Ab P.nb cb, .int .i64 P.fuel] 37) := ⟨_, rfl⟩
  rw [← hw1] at hP hB ⊢
  clear hw1
  go_loopg [9] n (fun q iv wr => ∃ k : Nat, k + q = n ∧ iv = .int .i64 (k : Nat) ∧ Hid (k ≤ P.nv ∧ ∀ j, j < k → 0 ≤ f j ∧ f j < P.vz j) ∧ Below w1.heap.size w1 wr)
  case atStart => exact ⟨0, by omega, rfl, Lib.hid ⟨Nat.zero_le _, fun j h => by omega⟩, Below.refl _ _⟩
  case round =>
    rename World => w2
    obtain ⟨k, hk, rfl, hq, hbel⟩ := hrel
    replace hP := hP.below hbel hP.lt
    replace hB := hB.trans (hbel.mono hB.size)
    obtain ⟨q0, q1, q2, q3, q4, q5, qf⟩ := hP.six
    by_cases hk0 : k < n
    · by_cases hkv : k < P.nv
      · have hge : decide ((P.nv : Int) ≤ (k : Int)) = false := decide_eq_false (by omega)
        obtain ⟨b, off, rfl, hb, r0, r1⟩ := (H.out.below hB (Nat.le_refl _)).at_ hkv
        obtain ⟨b', off', rfl, hb', s0⟩ := (HI.out.below hB (Nat.le_refl _)).at_ hk0
        have hz2 := (HV.out.1 k hkv).2.1
        have wz : IntKind.i64.wrap (P.vz k - 1) = P.vz k - 1 := IntWalk.i64_in _ (by omega)
        have CI : Hid (∀ W, _) := Lib.hid fun W => in3_any (f k) 0 (P.vz k - 1) W
        cases hz : decide (0 ≤ f k ∧ f k ≤ P.vz k - 1) with
        | false =>
          rw [hz] at CI
          have HZ := Lib.hid (of_decide_eq_false hz)
          clear hz
          go_wp2_with (go_at_call 47; refine (CI.out _).mono ?_; rintro e w' ⟨rfl, rfl⟩)
          go_ret
          exact Yn.no (fun h => HZ.out (by have := h.2 k hk0; omega)) hB
        | true =>
          rw [hz] at CI
          have HZ := Lib.hid (of_decide_eq_true hz)
          clear hz
          go_wp2_with (go_at_call 47; refine (CI.out _).mono ?_; rintro e w' ⟨rfl, rfl⟩)
          go_roundg (gk - 1)
          case rel => exact ⟨k + 1, by omega, by go_num, Lib.hid ⟨hkv, fun j hj => by
            by_cases hjk : j < k
            · exact hq.out.2 j hjk
            · obtain rfl : j = k := by omega
              have := HZ.out; omega⟩, hbel⟩
          case measure => omega
      · have hge : decide ((P.nv : Int) ≤ (k : Int)) = true := decide_eq_true (by omega)
        obtain ⟨b', off', rfl, hb', s0⟩ := (HI.out.below hB (Nat.le_refl _)).at_ hk0
        go_wp2_with fail
        go_ret
        exact Yn.no (fun h => by have := h.1; omega) hB
    · obtain rfl : k = n := by omega
      have HQ := hq.out
      by_cases hnm : k = P.nv
      · have he : ((k : Int) == (P.nv : Int)) = true := by rw [beq_iff_eq]; omega
        have HH : Hid (ValsOk P k f) := Lib.hid ⟨hnm, HQ.2⟩
        clear HQ hq hnm
        go_wp2_with fail
        go_ret
        exact Yn.yes HH.out hB
      · have he : ((k : Int) == (P.nv : Int)) = false := by rw [beq_eq_false_iff_ne]; omega
        have HH : Hid (¬ ValsOk P k f) := Lib.hid fun h => hnm h.1
        clear HQ hq hnm
        go_wp2_with fail
        go_ret
        exact Yn.no HH.out hB

end Go.Proofs.Ytcdgbjklfmlhkaa
