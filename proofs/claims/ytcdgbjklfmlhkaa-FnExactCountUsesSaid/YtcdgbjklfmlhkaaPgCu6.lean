/-
  CountUses: the model's. (Written by gen_pgcu6.py.)
-/
import Derived.Test.YtcdgbjklfmlhkaaPgCu5
namespace Go.Proofs.Ytcdgbjklfmlhkaa
open Go.RowKit Num

theorem IntsAt.like {lo : Nat} {w : World} {A : Option Addr} {n : Nat} {f g : Nat → Int} (h : IntsAt lo w A n f) (e : ∀ j, j < n → f j = g j) : IntsAt lo w A n g := fun h0 => by
  obtain ⟨b, off, h1, h2, h3⟩ := h h0
  exact ⟨b, off, h1, h2, fun j hj => by rw [← e j hj]; exact h3 j hj⟩

set_option maxRecDepth 100000 in
set_option maxHeartbeats 1600000 in
theorem allIn_any (lo : Nat) (A : Option Addr) (n c : Nat) (g : Nat → Int) (w : World) (hn : n ≤ 1048576) (h : IntsAt lo w A n g) :
    Calls Try.prog 78 #[.slice A n c, .int .i64 0, .int .i64 1000] w (Yn (∀ x, x < n → 0 ≤ g x ∧ g x ≤ 1000) w) := by
  have H := Lib.hid h
  clear h
  go_enter Try.func78, Try.ntmps78
  go_wp2_with fail
  go_loopg [11] n (fun q iv wr => ∃ k : Nat, k + q = n ∧ iv = .int .i64 (k : Nat) ∧ Hid (∀ x, x < k → 0 ≤ g x ∧ g x ≤ 1000) ∧ Below w.heap.size w wr)
  case atStart => exact ⟨0, by omega, rfl, Lib.hid fun x hx => absurd hx (Nat.not_lt_zero _), Below.refl _ _⟩
  case round =>
    rename World => w4
    obtain ⟨k, hk, rfl, hq, hB⟩ := hrel
    by_cases hk0 : k < n
    · obtain ⟨b, off, rfl, hb, r0⟩ := (H.out.below hB (Nat.le_refl _)).at_ hk0
      have hki : (k : Int) < (n : Int) := by omega
      have CN : Hid (∀ W, _) := Lib.hid fun W => in3_any (g k) 0 1000 W
      by_cases hg : 0 ≤ g k ∧ g k ≤ 1000
      · have HG := Lib.hid hg
        rw [decide_eq_true hg] at CN
        clear hg
        go_wp2_with (go_at_call 47; refine (CN.out _).mono ?_; rintro e w5 ⟨rfl, rfl⟩)
        go_roundg (gk - 1)
        case rel => exact ⟨k + 1, by omega, by go_num, Lib.hid fun x hx => by
          by_cases e9 : x = k
          · subst e9; exact HG.out
          · exact hq.out x (by omega), hB⟩
        case measure => omega
      · have HG := Lib.hid hg
        rw [decide_eq_false hg] at CN
        clear hg
        go_wp2_with (go_at_call 47; refine (CN.out _).mono ?_; rintro e w5 ⟨rfl, rfl⟩)
        go_ret
        exact Yn.no (fun z => HG.out (z k hk0)) hB
    · obtain rfl : k = n := by omega
      go_wp2_with fail
      go_ret
      exact Yn.yes hq.out hB

set_option maxRecDepth 100000 in
set_option maxHeartbeats 3200000 in
theorem specCu_any1 (lo : Nat) (P : Prg) (Av Ax As Ap Ab : Option Addr) (cv cx cs cp cb : Nat) (m : Int) (w : World) (hs : P.small) (hcv : P.nv ≤ cv) (hcp : P.np ≤ cp) (h : PgAt lo w Av Ax As Ap Ab P) (E0 : ¬ ExOf P m) :
    Calls Try.prog 30 #[.agg #[.slice Av P.nv cv, .slice Ax P.nx cx, .slice As P.ns cs, .slice Ap P.np cp, .slice Ab P.nb cb, .int .i64 P.fuel], .int .i64 m] w fun e w' => e = .returned (.tuple #[.slice none 0 0, .bool false]) ∧ Below w.heap.size w w' := by
  have hP := Box.new w 37 #[.slice Av P.nv cv, .slice Ax P.nx cx, .slice As P.ns cs, .slice Ap P.np cp, .slice Ab P.nb cb, .int .i64 P.fuel]
  have hB := (Below.refl w.heap.size w).alloc (Nat.le_refl _) (.cells #[.slice Av P.nv cv, .slice Ax P.nx cx, .slice As P.ns cs, .slice Ap P.np cp, .slice Ab P.nb cb, .int .i64 P.fuel] 37)
  obtain ⟨q0, q1, q2, q3, q4, q5, qf⟩ := hP.six
  have H := Lib.hid h
  have HSM := Lib.hid hs
  clear h hs
  have E := Lib.hid E0
  clear E0
  go_enter Try.func30, Try.ntmps30
  go_wp2_with (first
      | (go_at_call 75
         refine (exOf_any lo P Av Ax As Ap Ab cv cx cs cp cb _ _ HSM.out hcv hcp (H.out.below hB (Nat.le_refl _))).mono ?_
         rintro e w1 ⟨r, rfl, hr, hb⟩
         obtain rfl : r = false := by cases r with | false => rfl | true => exact absurd (hr.out.1 rfl) E.out
         clear q0 q1 q2 q3 q4 q5 qf hr
         replace hP := hP.below hb hP.lt
         replace hB := hB.trans (hb.mono hB.size)
         clear hb
         obtain ⟨q0, q1, q2, q3, q4, q5, qf⟩ := hP.six))
  go_ret2
  exact ⟨rfl, hB⟩

set_option maxRecDepth 100000 in
set_option maxHeartbeats 3200000 in
theorem specCu_any2 (lo : Nat) (P : Prg) (Av Ax As Ap Ab : Option Addr) (cv cx cs cp cb : Nat) (m : Int) (w : World) (hs : P.small) (hcv : P.nv ≤ cv) (hcp : P.np ≤ cp) (h : PgAt lo w Av Ax As Ap Ab P) (E0 : ExOf P m) (O0 : ¬ Few P m.toNat) :
    Calls Try.prog 30 #[.agg #[.slice Av P.nv cv, .slice Ax P.nx cx, .slice As P.ns cs, .slice Ap P.np cp, .slice Ab P.nb cb, .int .i64 P.fuel], .int .i64 m] w fun e w' => e = .returned (.tuple #[.slice none 0 0, .bool false]) ∧ Below w.heap.size w w' := by
  have hP := Box.new w 37 #[.slice Av P.nv cv, .slice Ax P.nx cx, .slice As P.ns cs, .slice Ap P.np cp, .slice Ab P.nb cb, .int .i64 P.fuel]
  have hB := (Below.refl w.heap.size w).alloc (Nat.le_refl _) (.cells #[.slice Av P.nv cv, .slice Ax P.nx cx, .slice As P.ns cs, .slice Ap P.np cp, .slice Ab P.nb cb, .int .i64 P.fuel] 37)
  obtain ⟨q0, q1, q2, q3, q4, q5, qf⟩ := hP.six
  have H := Lib.hid h
  have HSM := Lib.hid hs
  clear h hs
  have E := Lib.hid E0
  have F0 := E0.1
  have G0 := E0.2
  have hnv : P.nv ≤ 5 := F0.1.2.2
  have hnx := F0.2.1.1
  have HX := Lib.hid F0.2.1.2
  obtain ⟨i, rfl⟩ : ∃ i : Nat, m = (i : Int) := ⟨m.toNat, by omega⟩
  have hi0 : i < P.nx := by omega
  have HF : Hid (¬ ∀ x, x < P.nv → 0 ≤ us P.ex x (i + 1) i ∧ us P.ex x (i + 1) i ≤ 1000) := Lib.hid fun z => O0 fun x hx => (z x hx).2
  clear E0 F0 G0 O0
  go_enter Try.func30, Try.ntmps30
  go_wp2_with (first
      | (go_at_call 75
         refine (exOf_any lo P Av Ax As Ap Ab cv cx cs cp cb _ _ HSM.out hcv hcp (H.out.below hB (Nat.le_refl _))).mono ?_
         rintro e w1 ⟨r, rfl, hr, hb⟩
         obtain rfl : r = true := hr.out.2 E.out
         clear q0 q1 q2 q3 q4 q5 qf hr
         replace hP := hP.below hb hP.lt
         replace hB := hB.trans (hb.mono hB.size)
         clear hb
         obtain ⟨q0, q1, q2, q3, q4, q5, qf⟩ := hP.six)
      | (go_at_call 79
         refine (usesS_any lo P Av Ax As Ap Ab cv cx cs cp cb i _ HX.out hnx hnv hi0 (H.out.below hB (Nat.le_refl _)).x).mono ?_
         rintro e w2 ⟨A2, c2, rfl, hi2, hb⟩
         clear q0 q1 q2 q3 q4 q5 qf
         have hlo2 := hB.size
         replace hP := hP.below hb hP.lt
         replace hB := hB.trans (hb.mono hB.size)
         clear hb
         obtain ⟨q0, q1, q2, q3, q4, q5, qf⟩ := hP.six)
      | (go_at_call 78
         refine (allIn_any _ A2 P.nv c2 (fun x => us P.ex x (i + 1) i) _ (by omega) hi2).mono ?_
         rintro e w3 ⟨r3, rfl, hr3, hb⟩
         obtain rfl : r3 = false := by cases r3 with | false => rfl | true => exact absurd (hr3.out.1 rfl) HF.out
         clear q0 q1 q2 q3 q4 q5 qf hr3
         replace hP := hP.below hb hP.lt
         replace hB := hB.trans (hb.mono hB.size)
         clear hb
         obtain ⟨q0, q1, q2, q3, q4, q5, qf⟩ := hP.six))
  go_ret2
  exact ⟨rfl, hB⟩

set_option maxRecDepth 100000 in
set_option maxHeartbeats 3200000 in
theorem specCu_any3 (lo : Nat) (P : Prg) (Av Ax As Ap Ab : Option Addr) (cv cx cs cp cb : Nat) (m : Int) (w : World) (hs : P.small) (hcv : P.nv ≤ cv) (hcp : P.np ≤ cp) (h : PgAt lo w Av Ax As Ap Ab P) (E0 : ExOf P m) (O0 : Few P m.toNat) :
    Calls Try.prog 30 #[.agg #[.slice Av P.nv cv, .slice Ax P.nx cx, .slice As P.ns cs, .slice Ap P.np cp, .slice Ab P.nb cb, .int .i64 P.fuel], .int .i64 m] w fun e w' => ∃ A c, e = .returned (.tuple #[.slice A P.nv c, .bool true]) ∧ IntsAt w.heap.size w' A P.nv (cuF P m) ∧ Below w.heap.size w w' := by
  have hP := Box.new w 37 #[.slice Av P.nv cv, .slice Ax P.nx cx, .slice As P.ns cs, .slice Ap P.np cp, .slice Ab P.nb cb, .int .i64 P.fuel]
  have hB := (Below.refl w.heap.size w).alloc (Nat.le_refl _) (.cells #[.slice Av P.nv cv, .slice Ax P.nx cx, .slice As P.ns cs, .slice Ap P.np cp, .slice Ab P.nb cb, .int .i64 P.fuel] 37)
  obtain ⟨q0, q1, q2, q3, q4, q5, qf⟩ := hP.six
  have H := Lib.hid h
  have HSM := Lib.hid hs
  clear h hs
  have E := Lib.hid E0
  have F0 := E0.1
  have G0 := E0.2
  have hnv : P.nv ≤ 5 := F0.1.2.2
  have hnx := F0.2.1.1
  have HX := Lib.hid F0.2.1.2
  obtain ⟨i, rfl⟩ : ∃ i : Nat, m = (i : Int) := ⟨m.toNat, by omega⟩
  have hi0 : i < P.nx := by omega
  have HF : Hid (∀ x, x < P.nv → 0 ≤ us P.ex x (i + 1) i ∧ us P.ex x (i + 1) i ≤ 1000) := Lib.hid fun x hx => ⟨(us_bound P.ex x (i + 1) i).1, O0 x hx⟩
  clear E0 F0 G0 O0
  go_enter Try.func30, Try.ntmps30
  go_upto_region 3 with (first
      | (go_at_call 75
         refine (exOf_any lo P Av Ax As Ap Ab cv cx cs cp cb _ _ HSM.out hcv hcp (H.out.below hB (Nat.le_refl _))).mono ?_
         rintro e w1 ⟨r, rfl, hr, hb⟩
         obtain rfl : r = true := hr.out.2 E.out
         clear q0 q1 q2 q3 q4 q5 qf hr
         replace hP := hP.below hb hP.lt
         replace hB := hB.trans (hb.mono hB.size)
         clear hb
         obtain ⟨q0, q1, q2, q3, q4, q5, qf⟩ := hP.six)
      | (go_at_call 79
         refine (usesS_any lo P Av Ax As Ap Ab cv cx cs cp cb i _ HX.out hnx hnv hi0 (H.out.below hB (Nat.le_refl _)).x).mono ?_
         rintro e w2 ⟨A2, c2, rfl, hi2, hb⟩
         clear q0 q1 q2 q3 q4 q5 qf
         have hlo2 := hB.size
         replace hP := hP.below hb hP.lt
         replace hB := hB.trans (hb.mono hB.size)
         clear hb
         obtain ⟨q0, q1, q2, q3, q4, q5, qf⟩ := hP.six)
      | (go_at_call 78
         refine (allIn_any _ A2 P.nv c2 (fun x => us P.ex x (i + 1) i) _ (by omega) hi2).mono ?_
         rintro e w3 ⟨r3, rfl, hr3, hb⟩
         obtain rfl : r3 = true := hr3.out.2 HF.out
         clear q0 q1 q2 q3 q4 q5 qf hr3
         replace hP := hP.below hb hP.lt
         replace hB := hB.trans (hb.mono hB.size)
         clear hb
         obtain ⟨q0, q1, q2, q3, q4, q5, qf⟩ := hP.six))
  clear hi2 hlo2
  go_wp2_with (first
      | (go_at_call 79
         refine (usesS_any lo P Av Ax As Ap Ab cv cx cs cp cb i _ HX.out hnx hnv hi0 (H.out.below hB (Nat.le_refl _)).x).mono ?_
         rintro e w2 ⟨A4, c4, rfl, hi4, hb⟩
         clear q0 q1 q2 q3 q4 q5 qf
         have hlo4 := hB.size
         replace hP := hP.below hb hP.lt
         replace hB := hB.trans (hb.mono hB.size)
         clear hb
         obtain ⟨q0, q1, q2, q3, q4, q5, qf⟩ := hP.six))
  go_ret2
  refine ⟨A4, c4, rfl, ?_, hB⟩
  refine IntsAt.low (IntsAt.like hi4 fun j hj => ?_) hlo4
  exact (if_pos hj).symm

theorem specCu_any (lo : Nat) (P : Prg) (Av Ax As Ap Ab : Option Addr) (cv cx cs cp cb : Nat) (m : Int) (w : World) (hs : P.small) (hcv : P.nv ≤ cv) (hcp : P.np ≤ cp) (h : PgAt lo w Av Ax As Ap Ab P) :
    Calls Try.prog 30 #[.agg #[.slice Av P.nv cv, .slice Ax P.nx cx, .slice As P.ns cs, .slice Ap P.np cp, .slice Ab P.nb cb, .int .i64 P.fuel], .int .i64 m] w fun e w' => ∃ A c, e = .returned (.tuple #[.slice A (cuN P m) c, .bool (cuB P m)]) ∧ IntsAt w.heap.size w' A (cuN P m) (cuF P m) ∧ Below w.heap.size w w' := by
  have no : ¬ CuOk P m → (Calls Try.prog 30 #[.agg #[.slice Av P.nv cv, .slice Ax P.nx cx, .slice As P.ns cs, .slice Ap P.np cp, .slice Ab P.nb cb, .int .i64 P.fuel], .int .i64 m] w fun e w' => e = .returned (.tuple #[.slice none 0 0, .bool false]) ∧ Below w.heap.size w w') → (Calls Try.prog 30 #[.agg #[.slice Av P.nv cv, .slice Ax P.nx cx, .slice As P.ns cs, .slice Ap P.np cp, .slice Ab P.nb cb, .int .i64 P.fuel], .int .i64 m] w fun e w' => ∃ A c, e = .returned (.tuple #[.slice A (cuN P m) c, .bool (cuB P m)]) ∧ IntsAt w.heap.size w' A (cuN P m) (cuF P m) ∧ Below w.heap.size w w') := fun hn hc => by
    have hy := cu_no hn
    refine hc.mono ?_
    rintro e w' ⟨he, hb⟩
    exact ⟨none, 0, by rw [hy.1, hy.2]; exact he, by rw [hy.1]; exact fun h => absurd h (Nat.lt_irrefl 0), hb⟩
  by_cases E0 : ExOf P m
  · by_cases O0 : Few P m.toNat
    · have hy := cu_yes (P := P) (m := m) ⟨E0.1, E0.2, O0⟩
      rw [hy.1, hy.2]
      exact specCu_any3 lo P Av Ax As Ap Ab cv cx cs cp cb m w hs hcv hcp h E0 O0
    · exact no (fun z => O0 z.2.2) (specCu_any2 lo P Av Ax As Ap Ab cv cx cs cp cb m w hs hcv hcp h E0 O0)
  · exact no (fun z => E0 ⟨z.1, z.2.1⟩) (specCu_any1 lo P Av Ax As Ap Ab cv cx cs cp cb m w hs hcv hcp h E0)

end Go.Proofs.Ytcdgbjklfmlhkaa
