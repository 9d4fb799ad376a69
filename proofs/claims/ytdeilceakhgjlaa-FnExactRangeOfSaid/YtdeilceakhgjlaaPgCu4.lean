/-
  Is it an expression of a valid program: the model's test. (Written by gen_pgcu4.py.)
-/
import Derived.Test.YtdeilceakhgjlaaPgVs
namespace Go.Proofs.Ytdeilceakhgjlaa
open Go.RowKit Num

/-- The program is valid and the expression is one of its own. -/
def ExOf (P : Prg) (m : Int) : Prop := PgOk P ∧ 0 ≤ m ∧ m < (P.nx : Int)

set_option maxRecDepth 100000 in
set_option maxHeartbeats 3200000 in
theorem exOf_any (lo : Nat) (P : Prg) (Av Ax As Ap Ab : Option Addr) (cv cx cs cp cb : Nat) (m : Int) (w : World) (hs : P.small) (hcv : P.nv ≤ cv) (hcp : P.np ≤ cp) (h : PgAt lo w Av Ax As Ap Ab P) :
    Calls Try.prog 27 #[.agg #[.slice Av P.nv cv, .slice Ax P.nx cx, .slice As P.ns cs, .slice Ap P.np cp, .slice Ab P.nb cb, .int .i64 P.fuel], .int .i64 m] w (Yn (ExOf P m) w) := by
  have hP := Box.new w 37 #[.slice Av P.nv cv, .slice Ax P.nx cx, .slice As P.ns cs, .slice Ap P.np cp, .slice Ab P.nb cb, .int .i64 P.fuel]
  have hB := (Below.refl w.heap.size w).alloc (Nat.le_refl _) (.cells #[.slice Av P.nv cv, .slice Ax P.nx cx, .slice As P.ns cs, .slice Ap P.np cp, .slice Ab P.nb cb, .int .i64 P.fuel] 37)
  obtain ⟨q0, q1, q2, q3, q4, q5, qf⟩ := hP.six
  have H := Lib.hid h
  have HSM := Lib.hid hs
  have wn : IntKind.i64.wrap ((P.nx : Int) - 1) = (P.nx : Int) - 1 := IntWalk.i64_in _ (by have := hs.nx; omega)
  have CN : Hid (∀ W, _) := Lib.hid fun W => in3_any m 0 ((P.nx : Int) - 1) W
  clear h hs
  by_cases F0 : PgOk P
  · have F := Lib.hid F0
    by_cases G0 : 0 ≤ m ∧ m < (P.nx : Int)
    · have HE := Lib.hid (show ExOf P m from ⟨F0, G0⟩)
      have hd : decide ((0 : Int) ≤ m ∧ m ≤ (P.nx : Int) - 1) = true := decide_eq_true (by omega)
      rw [hd] at CN
      clear hd F0 G0
      go_enter Try.func27, Try.ntmps27
      go_wp2_with (first
      | (go_at_call 42
         refine (specVal_any lo P Av Ax As Ap Ab cv cx cs cp cb _ HSM.out hcv hcp (H.out.below hB (Nat.le_refl _))).mono ?_
         rintro e w1 ⟨r, rfl, hr, hb⟩
         obtain rfl : r = true := hr.out.2 F.out
         clear q0 q1 q2 q3 q4 q5 qf hr
         replace hP := hP.below hb hP.lt
         replace hB := hB.trans (hb.mono hB.size)
         clear hb
         obtain ⟨q0, q1, q2, q3, q4, q5, qf⟩ := hP.six)
      | (go_at_call 51
         refine (CN.out _).mono ?_
         rintro e w2 ⟨rfl, rfl⟩))
      go_ret
      exact Yn.yes HE.out hB
    · have HE := Lib.hid (show ¬ ExOf P m from fun z => G0 z.2)
      have hd : decide ((0 : Int) ≤ m ∧ m ≤ (P.nx : Int) - 1) = false := decide_eq_false (by omega)
      rw [hd] at CN
      clear hd F0 G0
      go_enter Try.func27, Try.ntmps27
      go_wp2_with (first
      | (go_at_call 42
         refine (specVal_any lo P Av Ax As Ap Ab cv cx cs cp cb _ HSM.out hcv hcp (H.out.below hB (Nat.le_refl _))).mono ?_
         rintro e w1 ⟨r, rfl, hr, hb⟩
         obtain rfl : r = true := hr.out.2 F.out
         clear q0 q1 q2 q3 q4 q5 qf hr
         replace hP := hP.below hb hP.lt
         replace hB := hB.trans (hb.mono hB.size)
         clear hb
         obtain ⟨q0, q1, q2, q3, q4, q5, qf⟩ := hP.six)
      | (go_at_call 51
         refine (CN.out _).mono ?_
         rintro e w2 ⟨rfl, rfl⟩))
      go_ret
      exact Yn.no HE.out hB
  · have F := Lib.hid F0
    have HE := Lib.hid (show ¬ ExOf P m from fun z => F0 z.1)
    clear F0
    go_enter Try.func27, Try.ntmps27
    go_wp2_with (first
      | (go_at_call 42
         refine (specVal_any lo P Av Ax As Ap Ab cv cx cs cp cb _ HSM.out hcv hcp (H.out.below hB (Nat.le_refl _))).mono ?_
         rintro e w1 ⟨r, rfl, hr, hb⟩
         obtain rfl : r = false := by cases r with | false => rfl | true => exact absurd (hr.out.1 rfl) F.out
         clear q0 q1 q2 q3 q4 q5 qf hr
         replace hP := hP.below hb hP.lt
         replace hB := hB.trans (hb.mono hB.size)
         clear hb
         obtain ⟨q0, q1, q2, q3, q4, q5, qf⟩ := hP.six))
    go_ret
    exact Yn.no HE.out hB

end Go.Proofs.Ytdeilceakhgjlaa
