/-
  FormatExpr: the model and the program. (Written by gen_fx4.py.)
-/
import Derived.Test.YtoaiejodbmkbjaaGreatDoorFxG
import Derived.Test.YtoaiejodbmkbjaaGreatDoorPgVi
import Derived.Test.YtoaiejodbmkbjaaGreatDoorPgLaw
namespace Go.Proofs.YtoaiejodbmkbjaaGreatDoor
open Go.RowKit Num

theorem exs_left {F : Nat → Nat → Int} {m : Nat} : ∀ {n k : Nat}, exsOk F m n = true → k ≤ n → exsOk F m k = true
  | 0, k, h, hk => by obtain rfl : k = 0 := by omega
                      exact h
  | n + 1, k, h, hk => by
    by_cases e : k = n + 1
    · subst e; exact h
    · simp only [exsOk, Bool.and_eq_true] at h
      exact exs_left h.1 (by omega)
theorem exL_left {lo : Nat} {w : World} {A : Option Addr} {n m : Nat} {F : Nat → Nat → Int} (h : ExL lo w A n F) (hm : m ≤ n) : ExL lo w A m F :=
  ⟨fun h0 => by
    obtain ⟨b, off, e, h1, h2⟩ := h.1 (by omega)
    exact ⟨b, off, e, h1, fun j hj => h2 j (by omega)⟩, fun h0 => h.2 (by omega)⟩
theorem held3x {p0 p1 p2 : Prop} (h : p0 ∧ p1 ∧ p2) : p2 := h.2.2

open Classical in
/-- The text that FormatExpr answers with: none at an unsound program, behind the expressions, or past six thousand bytes. -/
noncomputable def fxS (P : Prg) (m : Int) : ByteArray := if PgOk P ∧ 0 ≤ m ∧ m < (P.nx : Int) then capT P.ex P.vn m.toNat else ⟨#[]⟩
noncomputable def fxB (P : Prg) (m : Int) : Bool := !(fxS P m).toList.isEmpty
theorem nil_list : (⟨#[]⟩ : ByteArray).toList = [] := by rw [ByteArray.toList_eq]
theorem ne_filled {s : ByteArray} (h : 1 ≤ s.size) : (!s.toList.isEmpty) = true := by
  cases e : s.toList with
  | nil =>
    have e2 : s = ⟨#[]⟩ := toList_inj (by rw [e, nil_list]; rfl)
    rw [e2] at h
    exact absurd h (by decide)
  | cons x l => rfl
theorem fx_no {P : Prg} {m : Int} (h : ¬ (PgOk P ∧ 0 ≤ m ∧ m < (P.nx : Int))) : fxS P m = ⟨#[]⟩ ∧ fxB P m = false := by
  have e : fxS P m = ⟨#[]⟩ := by unfold fxS; rw [if_neg h]
  exact ⟨e, by rw [fxB, e, nil_list]; rfl⟩
theorem fx_yes {P : Prg} {m : Int} (h : PgOk P ∧ 0 ≤ m ∧ m < (P.nx : Int)) : fxS P m = capT P.ex P.vn m.toNat := by unfold fxS; rw [if_pos h]

set_option maxRecDepth 100000 in
set_option maxHeartbeats 3200000 in
theorem specFx_any1 (lo : Nat) (P : Prg) (Av Ax As Ap Ab : Option Addr) (cv cx cs cp cb : Nat) (m : Int) (w : World) (hs : P.small) (hcv : P.nv ≤ cv) (hcp : P.np ≤ cp) (h : PgAt lo w Av Ax As Ap Ab P) (F0 : ¬ PgOk P) :
    Calls Tryz.prog 5 #[.agg #[.slice Av P.nv cv, .slice Ax P.nx cx, .slice As P.ns cs, .slice Ap P.np cp, .slice Ab P.nb cb, .int .i64 P.fuel], .int .i64 m] w fun e w' => e = .returned (.tuple #[.string ⟨#[]⟩, .bool false]) ∧ Below w.heap.size w w' := by
  have hP := Box.new w 37 #[.slice Av P.nv cv, .slice Ax P.nx cx, .slice As P.ns cs, .slice Ap P.np cp, .slice Ab P.nb cb, .int .i64 P.fuel]
  have hB := (Below.refl w.heap.size w).alloc (Nat.le_refl _) (.cells #[.slice Av P.nv cv, .slice Ax P.nx cx, .slice As P.ns cs, .slice Ap P.np cp, .slice Ab P.nb cb, .int .i64 P.fuel] 37)
  obtain ⟨q0, q1, q2, q3, q4, q5, qf⟩ := hP.six
  have H := Lib.hid h
  have HSM := Lib.hid hs
  have wn : IntKind.i64.wrap ((P.nx : Int) - 1) = (P.nx : Int) - 1 := IntWalk.i64_in _ (by have := hs.nx; omega)
  have CN : Hid (∀ W, _) := Lib.hid fun W => in3_any m 0 ((P.nx : Int) - 1) W
  clear h hs
  have F := Lib.hid F0
  clear F0
  go_enter Tryz.func5, Tryz.ntmps5
  go_wp2_with (first
      | (go_at_call 14
         refine (specVal_any lo P Av Ax As Ap Ab cv cx cs cp cb _ HSM.out hcv hcp (H.out.below hB (Nat.le_refl _))).mono ?_
         rintro e w1 ⟨r, rfl, hr, hb⟩
         obtain rfl : r = false := by cases r with | false => rfl | true => exact absurd (hr.out.1 rfl) F.out
         clear q0 q1 q2 q3 q4 q5 qf hr
         replace hP := hP.below hb hP.lt
         replace hB := hB.trans (hb.mono hB.size)
         clear hb
         obtain ⟨q0, q1, q2, q3, q4, q5, qf⟩ := hP.six))
  go_ret2
  exact ⟨rfl, hB⟩

set_option maxRecDepth 100000 in
set_option maxHeartbeats 3200000 in
theorem specFx_any2 (lo : Nat) (P : Prg) (Av Ax As Ap Ab : Option Addr) (cv cx cs cp cb : Nat) (m : Int) (w : World) (hs : P.small) (hcv : P.nv ≤ cv) (hcp : P.np ≤ cp) (h : PgAt lo w Av Ax As Ap Ab P) (F0 : PgOk P) (G0 : ¬ (0 ≤ m ∧ m < (P.nx : Int))) :
    Calls Tryz.prog 5 #[.agg #[.slice Av P.nv cv, .slice Ax P.nx cx, .slice As P.ns cs, .slice Ap P.np cp, .slice Ab P.nb cb, .int .i64 P.fuel], .int .i64 m] w fun e w' => e = .returned (.tuple #[.string ⟨#[]⟩, .bool false]) ∧ Below w.heap.size w w' := by
  have hP := Box.new w 37 #[.slice Av P.nv cv, .slice Ax P.nx cx, .slice As P.ns cs, .slice Ap P.np cp, .slice Ab P.nb cb, .int .i64 P.fuel]
  have hB := (Below.refl w.heap.size w).alloc (Nat.le_refl _) (.cells #[.slice Av P.nv cv, .slice Ax P.nx cx, .slice As P.ns cs, .slice Ap P.np cp, .slice Ab P.nb cb, .int .i64 P.fuel] 37)
  obtain ⟨q0, q1, q2, q3, q4, q5, qf⟩ := hP.six
  have H := Lib.hid h
  have HSM := Lib.hid hs
  have wn : IntKind.i64.wrap ((P.nx : Int) - 1) = (P.nx : Int) - 1 := IntWalk.i64_in _ (by have := hs.nx; omega)
  have CN : Hid (∀ W, _) := Lib.hid fun W => in3_any m 0 ((P.nx : Int) - 1) W
  clear h hs
  have F := Lib.hid F0
  have hd : decide ((0 : Int) ≤ m ∧ m ≤ (P.nx : Int) - 1) = false := decide_eq_false (by omega)
  rw [hd] at CN
  clear hd F0 G0
  go_enter Tryz.func5, Tryz.ntmps5
  go_wp2_with (first
      | (go_at_call 14
         refine (specVal_any lo P Av Ax As Ap Ab cv cx cs cp cb _ HSM.out hcv hcp (H.out.below hB (Nat.le_refl _))).mono ?_
         rintro e w1 ⟨r, rfl, hr, hb⟩
         obtain rfl : r = true := hr.out.2 F.out
         clear q0 q1 q2 q3 q4 q5 qf hr
         replace hP := hP.below hb hP.lt
         replace hB := hB.trans (hb.mono hB.size)
         clear hb
         obtain ⟨q0, q1, q2, q3, q4, q5, qf⟩ := hP.six)
      | (go_at_call 15
         refine (CN.out _).mono ?_
         rintro e w2 ⟨rfl, rfl⟩))
  go_ret2
  exact ⟨rfl, hB⟩

set_option maxRecDepth 100000 in
set_option maxHeartbeats 3200000 in
theorem specFx_any3 (lo : Nat) (P : Prg) (Av Ax As Ap Ab : Option Addr) (cv cx cs cp cb : Nat) (m : Int) (w : World) (hs : P.small) (hcv : P.nv ≤ cv) (hcp : P.np ≤ cp) (h : PgAt lo w Av Ax As Ap Ab P) (F0 : PgOk P) (G0 : 0 ≤ m ∧ m < (P.nx : Int)) (S0 : (full P.ex P.vn m.toNat).size ≤ 6000) :
    Calls Tryz.prog 5 #[.agg #[.slice Av P.nv cv, .slice Ax P.nx cx, .slice As P.ns cs, .slice Ap P.np cp, .slice Ab P.nb cb, .int .i64 P.fuel], .int .i64 m] w fun e w' => e = .returned (.tuple #[.string (full P.ex P.vn m.toNat), .bool true]) ∧ Below w.heap.size w w' := by
  have hP := Box.new w 37 #[.slice Av P.nv cv, .slice Ax P.nx cx, .slice As P.ns cs, .slice Ap P.np cp, .slice Ab P.nb cb, .int .i64 P.fuel]
  have hB := (Below.refl w.heap.size w).alloc (Nat.le_refl _) (.cells #[.slice Av P.nv cv, .slice Ax P.nx cx, .slice As P.ns cs, .slice Ap P.np cp, .slice Ab P.nb cb, .int .i64 P.fuel] 37)
  obtain ⟨q0, q1, q2, q3, q4, q5, qf⟩ := hP.six
  have H := Lib.hid h
  have HSM := Lib.hid hs
  have wn : IntKind.i64.wrap ((P.nx : Int) - 1) = (P.nx : Int) - 1 := IntWalk.i64_in _ (by have := hs.nx; omega)
  have CN : Hid (∀ W, _) := Lib.hid fun W => in3_any m 0 ((P.nx : Int) - 1) W
  clear h hs
  have F := Lib.hid F0
  have hd : decide ((0 : Int) ≤ m ∧ m ≤ (P.nx : Int) - 1) = true := decide_eq_true (by omega)
  rw [hd] at CN
  clear hd
  obtain ⟨i, rfl⟩ : ∃ i : Nat, m = (i : Int) := ⟨m.toNat, by omega⟩
  rw [Int.toNat_natCast] at S0
  rw [Int.toNat_natCast]
  have hi0 : i < P.nx := by omega
  have hnx := F0.2.1.1
  have hnv : P.nv ≤ 5 := F0.1.2.2
  have HV := Lib.hid F0.1
  have HX := Lib.hid F0.2.1.2
  clear G0 F0
  obtain ⟨z, hz⟩ : ∃ z : Nat, z = min (full P.ex P.vn i).size 6001 := ⟨_, rfl⟩
  have CS : Hid (∀ W, Below w.heap.size w W → _) := Lib.hid fun W hW => size_any lo P Av Ax As Ap Ab cv cx cs cp cb i W HX.out hnx HV.out hi0 (H.out.below hW (Nat.le_refl _))
  rw [← hz] at CS
  have hzd : decide ((6000 : Int) < (z : Int)) = false := decide_eq_false (by omega)
  have CE : Hid (∀ W, Below w.heap.size w W → _) := Lib.hid fun W hW => expr_any lo P Av Ax As Ap Ab cv cx cs cp cb HX.out hnx i hi0 S0 W (H.out.below hW (Nat.le_refl _))
  clear hz S0
  go_enter Tryz.func5, Tryz.ntmps5
  go_wp2_with (first
      | (go_at_call 14
         refine (specVal_any lo P Av Ax As Ap Ab cv cx cs cp cb _ HSM.out hcv hcp (H.out.below hB (Nat.le_refl _))).mono ?_
         rintro e w1 ⟨r, rfl, hr, hb⟩
         obtain rfl : r = true := hr.out.2 F.out
         clear q0 q1 q2 q3 q4 q5 qf hr
         replace hP := hP.below hb hP.lt
         replace hB := hB.trans (hb.mono hB.size)
         clear hb
         obtain ⟨q0, q1, q2, q3, q4, q5, qf⟩ := hP.six)
      | (go_at_call 15
         refine (CN.out _).mono ?_
         rintro e w2 ⟨rfl, rfl⟩)
      | (go_at_call 16
         refine (CS.out _ hB).mono ?_
         rintro e w4 ⟨rfl, hb⟩
         clear q0 q1 q2 q3 q4 q5 qf
         replace hP := hP.below hb hP.lt
         replace hB := hB.trans (hb.mono hB.size)
         clear hb
         obtain ⟨q0, q1, q2, q3, q4, q5, qf⟩ := hP.six)
      | (go_at_call 17
         refine (CE.out _ hB).mono ?_
         rintro e w5 ⟨rfl, hb⟩
         replace hB := hB.trans (hb.mono hB.size)))
  go_ret2
  exact ⟨rfl, hB⟩

set_option maxRecDepth 100000 in
set_option maxHeartbeats 3200000 in
theorem specFx_any4 (lo : Nat) (P : Prg) (Av Ax As Ap Ab : Option Addr) (cv cx cs cp cb : Nat) (m : Int) (w : World) (hs : P.small) (hcv : P.nv ≤ cv) (hcp : P.np ≤ cp) (h : PgAt lo w Av Ax As Ap Ab P) (F0 : PgOk P) (G0 : 0 ≤ m ∧ m < (P.nx : Int)) (S0 : 6000 < (full P.ex P.vn m.toNat).size) :
    Calls Tryz.prog 5 #[.agg #[.slice Av P.nv cv, .slice Ax P.nx cx, .slice As P.ns cs, .slice Ap P.np cp, .slice Ab P.nb cb, .int .i64 P.fuel], .int .i64 m] w fun e w' => e = .returned (.tuple #[.string ⟨#[]⟩, .bool false]) ∧ Below w.heap.size w w' := by
  have hP := Box.new w 37 #[.slice Av P.nv cv, .slice Ax P.nx cx, .slice As P.ns cs, .slice Ap P.np cp, .slice Ab P.nb cb, .int .i64 P.fuel]
  have hB := (Below.refl w.heap.size w).alloc (Nat.le_refl _) (.cells #[.slice Av P.nv cv, .slice Ax P.nx cx, .slice As P.ns cs, .slice Ap P.np cp, .slice Ab P.nb cb, .int .i64 P.fuel] 37)
  obtain ⟨q0, q1, q2, q3, q4, q5, qf⟩ := hP.six
  have H := Lib.hid h
  have HSM := Lib.hid hs
  have wn : IntKind.i64.wrap ((P.nx : Int) - 1) = (P.nx : Int) - 1 := IntWalk.i64_in _ (by have := hs.nx; omega)
  have CN : Hid (∀ W, _) := Lib.hid fun W => in3_any m 0 ((P.nx : Int) - 1) W
  clear h hs
  have F := Lib.hid F0
  have hd : decide ((0 : Int) ≤ m ∧ m ≤ (P.nx : Int) - 1) = true := decide_eq_true (by omega)
  rw [hd] at CN
  clear hd
  obtain ⟨i, rfl⟩ : ∃ i : Nat, m = (i : Int) := ⟨m.toNat, by omega⟩
  rw [Int.toNat_natCast] at S0
  have hi0 : i < P.nx := by omega
  have hnx := F0.2.1.1
  have hnv : P.nv ≤ 5 := F0.1.2.2
  have HV := Lib.hid F0.1
  have HX := Lib.hid F0.2.1.2
  clear G0 F0
  obtain ⟨z, hz⟩ : ∃ z : Nat, z = min (full P.ex P.vn i).size 6001 := ⟨_, rfl⟩
  have CS : Hid (∀ W, Below w.heap.size w W → _) := Lib.hid fun W hW => size_any lo P Av Ax As Ap Ab cv cx cs cp cb i W HX.out hnx HV.out hi0 (H.out.below hW (Nat.le_refl _))
  rw [← hz] at CS
  have hzd : decide ((6000 : Int) < (z : Int)) = true := decide_eq_true (by omega)
  clear hz S0
  go_enter Tryz.func5, Tryz.ntmps5
  go_wp2_with (first
      | (go_at_call 14
         refine (specVal_any lo P Av Ax As Ap Ab cv cx cs cp cb _ HSM.out hcv hcp (H.out.below hB (Nat.le_refl _))).mono ?_
         rintro e w1 ⟨r, rfl, hr, hb⟩
         obtain rfl : r = true := hr.out.2 F.out
         clear q0 q1 q2 q3 q4 q5 qf hr
         replace hP := hP.below hb hP.lt
         replace hB := hB.trans (hb.mono hB.size)
         clear hb
         obtain ⟨q0, q1, q2, q3, q4, q5, qf⟩ := hP.six)
      | (go_at_call 15
         refine (CN.out _).mono ?_
         rintro e w2 ⟨rfl, rfl⟩)
      | (go_at_call 16
         refine (CS.out _ hB).mono ?_
         rintro e w4 ⟨rfl, hb⟩
         clear q0 q1 q2 q3 q4 q5 qf
         replace hP := hP.below hb hP.lt
         replace hB := hB.trans (hb.mono hB.size)
         clear hb
         obtain ⟨q0, q1, q2, q3, q4, q5, qf⟩ := hP.six))
  go_ret2
  exact ⟨rfl, hB⟩

set_option maxRecDepth 100000 in
set_option maxHeartbeats 3200000 in
theorem implFx_any1 (lo : Nat) (P : Prg) (Av Ax As Ap Ab : Option Addr) (cv cx cs cp cb : Nat) (m : Int) (w : World) (hs : P.small) (_hcx : P.nx ≤ cx) (h : PgAt lo w Av Ax As Ap Ab P) (F0 : ¬ PgOk P) :
    Calls Tryz.prog 7 #[.agg #[.slice Av P.nv cv, .slice Ax P.nx cx, .slice As P.ns cs, .slice Ap P.np cp, .slice Ab P.nb cb, .int .i64 P.fuel], .int .i64 m] w fun e w' => e = .returned (.tuple #[.string ⟨#[]⟩, .bool false]) ∧ Below w.heap.size w w' := by
  have hP := Box.new w 37 #[.slice Av P.nv cv, .slice Ax P.nx cx, .slice As P.ns cs, .slice Ap P.np cp, .slice Ab P.nb cb, .int .i64 P.fuel]
  have hB := (Below.refl w.heap.size w).alloc (Nat.le_refl _) (.cells #[.slice Av P.nv cv, .slice Ax P.nx cx, .slice As P.ns cs, .slice Ap P.np cp, .slice Ab P.nb cb, .int .i64 P.fuel] 37)
  obtain ⟨q0, q1, q2, q3, q4, q5, qf⟩ := hP.six
  have H := Lib.hid h
  have HSM := Lib.hid hs
  have CN : Hid (∀ W, _) := Lib.hid fun W => idx_any m (P.nx : Int) W
  clear h hs
  have F := Lib.hid F0
  clear F0
  go_enter Tryz.func7, Tryz.ntmps7
  go_wp2_with (first
      | (go_at_call 23
         refine (implValid_any lo P Av _ As Ap Ab cv cx cs cp cb _ HSM.out (H.out.below hB (Nat.le_refl _))).mono ?_
         rintro e w1 ⟨r, rfl, hr, hb⟩
         obtain rfl : r = false := by cases r with | false => rfl | true => exact absurd (hr.out.1 rfl) F.out
         clear q0 q1 q2 q3 q4 q5 qf hr
         replace hP := hP.below hb hP.lt
         replace hB := hB.trans (hb.mono hB.size)
         clear hb
         obtain ⟨q0, q1, q2, q3, q4, q5, qf⟩ := hP.six))
  go_ret2
  exact ⟨rfl, hB⟩

set_option maxRecDepth 100000 in
set_option maxHeartbeats 3200000 in
theorem implFx_any2 (lo : Nat) (P : Prg) (Av Ax As Ap Ab : Option Addr) (cv cx cs cp cb : Nat) (m : Int) (w : World) (hs : P.small) (_hcx : P.nx ≤ cx) (h : PgAt lo w Av Ax As Ap Ab P) (F0 : PgOk P) (G0 : ¬ (0 ≤ m ∧ m < (P.nx : Int))) :
    Calls Tryz.prog 7 #[.agg #[.slice Av P.nv cv, .slice Ax P.nx cx, .slice As P.ns cs, .slice Ap P.np cp, .slice Ab P.nb cb, .int .i64 P.fuel], .int .i64 m] w fun e w' => e = .returned (.tuple #[.string ⟨#[]⟩, .bool false]) ∧ Below w.heap.size w w' := by
  have hP := Box.new w 37 #[.slice Av P.nv cv, .slice Ax P.nx cx, .slice As P.ns cs, .slice Ap P.np cp, .slice Ab P.nb cb, .int .i64 P.fuel]
  have hB := (Below.refl w.heap.size w).alloc (Nat.le_refl _) (.cells #[.slice Av P.nv cv, .slice Ax P.nx cx, .slice As P.ns cs, .slice Ap P.np cp, .slice Ab P.nb cb, .int .i64 P.fuel] 37)
  obtain ⟨q0, q1, q2, q3, q4, q5, qf⟩ := hP.six
  have H := Lib.hid h
  have HSM := Lib.hid hs
  have CN : Hid (∀ W, _) := Lib.hid fun W => idx_any m (P.nx : Int) W
  clear h hs
  have F := Lib.hid F0
  have hd : decide ((0 : Int) ≤ m ∧ m < (P.nx : Int)) = false := decide_eq_false (by omega)
  rw [hd] at CN
  clear hd F0 G0
  go_enter Tryz.func7, Tryz.ntmps7
  go_wp2_with (first
      | (go_at_call 23
         refine (implValid_any lo P Av _ As Ap Ab cv cx cs cp cb _ HSM.out (H.out.below hB (Nat.le_refl _))).mono ?_
         rintro e w1 ⟨r, rfl, hr, hb⟩
         obtain rfl : r = true := hr.out.2 F.out
         clear q0 q1 q2 q3 q4 q5 qf hr
         replace hP := hP.below hb hP.lt
         replace hB := hB.trans (hb.mono hB.size)
         clear hb
         obtain ⟨q0, q1, q2, q3, q4, q5, qf⟩ := hP.six)
      | (go_at_call 24
         refine (CN.out _).mono ?_
         rintro e w2 ⟨rfl, rfl⟩))
  go_ret2
  exact ⟨rfl, hB⟩

set_option maxRecDepth 100000 in
set_option maxHeartbeats 3200000 in
theorem implFx_any3 (lo : Nat) (P : Prg) (Av Ax As Ap Ab : Option Addr) (cv cx cs cp cb : Nat) (m : Int) (w : World) (hs : P.small) (hcx : P.nx ≤ cx) (h : PgAt lo w Av Ax As Ap Ab P) (F0 : PgOk P) (G0 : 0 ≤ m ∧ m < (P.nx : Int)) :
    Calls Tryz.prog 7 #[.agg #[.slice Av P.nv cv, .slice Ax P.nx cx, .slice As P.ns cs, .slice Ap P.np cp, .slice Ab P.nb cb, .int .i64 P.fuel], .int .i64 m] w fun e w' => e = .returned (.tuple #[.string (capT P.ex P.vn m.toNat), .bool (!(capT P.ex P.vn m.toNat).toList.isEmpty)]) ∧ Below w.heap.size w w' := by
  have hP := Box.new w 37 #[.slice Av P.nv cv, .slice Ax P.nx cx, .slice As P.ns cs, .slice Ap P.np cp, .slice Ab P.nb cb, .int .i64 P.fuel]
  have hB := (Below.refl w.heap.size w).alloc (Nat.le_refl _) (.cells #[.slice Av P.nv cv, .slice Ax P.nx cx, .slice As P.ns cs, .slice Ap P.np cp, .slice Ab P.nb cb, .int .i64 P.fuel] 37)
  obtain ⟨q0, q1, q2, q3, q4, q5, qf⟩ := hP.six
  have H := Lib.hid h
  have HSM := Lib.hid hs
  have CN : Hid (∀ W, _) := Lib.hid fun W => idx_any m (P.nx : Int) W
  clear h hs
  have F := Lib.hid F0
  have hd : decide ((0 : Int) ≤ m ∧ m < (P.nx : Int)) = true := decide_eq_true (by omega)
  rw [hd] at CN
  clear hd
  obtain ⟨i, rfl⟩ : ∃ i : Nat, m = (i : Int) := ⟨m.toNat, by omega⟩
  rw [Int.toNat_natCast]
  have hi0 : i < P.nx := by omega
  have hnx := F0.2.1.1
  have hnv : P.nv ≤ 5 := F0.1.2.2
  have HV := Lib.hid F0.1
  have HX := Lib.hid F0.2.1.2
  clear G0 F0
  have hl0 := hP.lt
  have HPS := Lib.hid HV.out.sizes
  obtain ⟨b, off, rfl, hbb, hcc⟩ := H.out.x.1 (show 0 < P.nx by omega)
  clear hbb hcc
  have CT : Hid (∀ W, Below w.heap.size w W → _) := Lib.hid fun W hW => textsOf_any lo P.ex Av (some ⟨b, off, none⟩) P.nv cv (i + 1) cx P.vn P.vz W (exs_left HX.out (by omega)) (by omega) hnv HPS.out ((H.out.below hW (Nat.le_refl _)).v) (exL_left (H.out.below hW (Nat.le_refl _)).x (by omega))
  have hcz : (capT P.ex P.vn i).size ≤ 281474976710656 := Nat.le_trans (capT_size P.ex P.vn i) (by omega)
  have CC : Hid (∀ W, _) := Lib.hid fun W => clone_any (capT P.ex P.vn i) W hcz
  have wi : IntKind.i64.wrap ((i : Int) + 1) = ((i + 1 : Nat) : Int) := by rw [IntWalk.i64_in _ (by omega)]; omega
  have hs1 : ((i + 1 : Nat) : Int) ≤ (cx : Int) := by omega
  have hs2 : ((i + 1 : Nat) : Int) ≤ (P.nx : Int) := by omega
  have hs3 : ¬ (cx = 0) := by omega
  have hii : ¬ ((i : Int) + 1 ≤ (i : Int)) := by omega
  have hs4 : ¬ ((cx : Int) < (i : Int) + 1) := by omega
  have hs5 : (0 : Int) ≤ (i : Int) + 1 := by omega
  go_enter Tryz.func7, Tryz.ntmps7
  go_upto_region 3 with (first
      | (go_at_call 23
         refine (implValid_any lo P Av _ As Ap Ab cv cx cs cp cb _ HSM.out (H.out.below hB (Nat.le_refl _))).mono ?_
         rintro e w1 ⟨r, rfl, hr, hb⟩
         obtain rfl : r = true := hr.out.2 F.out
         clear q0 q1 q2 q3 q4 q5 qf hr
         replace hP := hP.below hb hP.lt
         replace hB := hB.trans (hb.mono hB.size)
         clear hb
         obtain ⟨q0, q1, q2, q3, q4, q5, qf⟩ := hP.six)
      | (go_at_call 24
         refine (CN.out _).mono ?_
         rintro e w2 ⟨rfl, rfl⟩))
  replace hl0 := hP.lt
  refine wp_region_held_drew (S := (fun w' => w'.cell? ⟨w.heap.size, 0, none⟩ = some (.slice Av P.nv cv) ∧ w'.cell? ⟨w.heap.size, 1, none⟩ = some (.slice (some ⟨b, off, none⟩) P.nx cx) ∧ Below w1.heap.size w1 w')) (by kernel_rfl) ?_ (fun hHeld => ?_)
  · (try dsimp only); (suffices hBB : Below w1.heap.size w1 _ from ⟨(hBB.cell hl0).trans q0, (hBB.cell hl0).trans q1, hBB⟩; first | exact Below.drew (Below.refl _ _) | exact held3x (by assumption) | (refine stepB (held3x (by assumption)) ?_; assumption))
  refine wpAnyH_take (i := 0) (v := .pointer (some ⟨w.heap.size, 0, none⟩)) rfl (by kernel_rfl) (by kernel_rfl) (by kernel_rfl) (fun _ _ _ h => h) (Or.inl ⟨by rfl, ?_⟩) (by assumption) ?_
  · intro w' hSw; (try dsimp only at hSw); go_simp
  (try simp only [Act.put, List.getElem_toArray, List.getElem_cons_zero, List.setIfInBounds_toArray, List.set_cons_zero, List.set_cons_succ])
  refine wpAnyH_take (i := 1) (v := .slice Av P.nv cv) rfl (by kernel_rfl) (by kernel_rfl) (by kernel_rfl) (fun _ _ _ h => h) (Or.inl ⟨by rfl, ?_⟩) (by assumption) ?_
  · intro w' hSw; (try dsimp only at hSw); go_simp
  (try simp only [Act.put, List.getElem_toArray, List.getElem_cons_zero, List.getElem_cons_succ, List.setIfInBounds_toArray, List.set_cons_zero, List.set_cons_succ])
  refine wpAnyH_take (i := 2) (v := .pointer (some ⟨w.heap.size, 1, none⟩)) rfl (by kernel_rfl) (by kernel_rfl) (by kernel_rfl) (fun _ _ _ h => h) (Or.inl ⟨by rfl, ?_⟩) (by assumption) ?_
  · intro w' hSw; (try dsimp only at hSw); go_simp
  (try simp only [Act.put, List.getElem_toArray, List.getElem_cons_zero, List.getElem_cons_succ, List.setIfInBounds_toArray, List.set_cons_zero, List.set_cons_succ])
  refine wpAnyH_take (i := 3) (v := .slice (some ⟨b, off, none⟩) P.nx cx) rfl (by kernel_rfl) (by kernel_rfl) (by kernel_rfl) (fun _ _ _ h => h) (Or.inl ⟨by rfl, ?_⟩) (by assumption) ?_
  · intro w' hSw; (try dsimp only at hSw); go_simp
  (try simp only [Act.put, List.getElem_toArray, List.getElem_cons_zero, List.getElem_cons_succ, List.setIfInBounds_toArray, List.set_cons_zero, List.set_cons_succ])
  refine wpAnyH_take (i := 4) (v := .int .i64 (i : Nat)) rfl (by kernel_rfl) (by kernel_rfl) (by kernel_rfl) (fun _ _ _ h => h) (Or.inl ⟨by rfl, ?_⟩) (by assumption) ?_
  · intro w' hSw; (try dsimp only at hSw); go_simp
  (try simp only [Act.put, List.getElem_toArray, List.getElem_cons_zero, List.getElem_cons_succ, List.setIfInBounds_toArray, List.set_cons_zero, List.set_cons_succ])
  refine wpAnyH_take (i := 5) (v := .int .i64 ((i + 1 : Nat) : Int)) rfl (by kernel_rfl) (by kernel_rfl) (by kernel_rfl) (fun _ _ _ h => h) (Or.inl ⟨by rfl, ?_⟩) (by assumption) ?_
  · intro w' hSw; (try dsimp only at hSw); go_simp
  (try simp only [Act.put, List.getElem_toArray, List.getElem_cons_zero, List.getElem_cons_succ, List.setIfInBounds_toArray, List.set_cons_zero, List.set_cons_succ])
  refine wpAnyH_take (i := 6) (v := .slice (some ⟨b, off, none⟩) (i + 1) cx) rfl (by kernel_rfl) (by kernel_rfl) (by kernel_rfl) (fun _ _ _ h => h) (Or.inl ⟨by rfl, ?_⟩) (by assumption) ?_
  · intro w' hSw; (try dsimp only at hSw); go_simp
  (try simp only [Act.put, List.getElem_toArray, List.getElem_cons_zero, List.getElem_cons_succ, List.setIfInBounds_toArray, List.set_cons_zero, List.set_cons_succ])
  refine wpAnyH_take (i := 8) (v := .int .i64 (i : Nat)) rfl (by kernel_rfl) (by kernel_rfl) (by kernel_rfl) (fun _ _ _ h => h) (Or.inl ⟨by rfl, ?_⟩) (by assumption) ?_
  · intro w' hSw; (try dsimp only at hSw); go_simp
  (try simp only [Act.put, List.getElem_toArray, List.getElem_cons_zero, List.getElem_cons_succ, List.setIfInBounds_toArray, List.set_cons_zero, List.set_cons_succ])
  refine wpAnyH_ready (rs := [7]) (by kernel_rfl) (by simp) ?_
  refine AllReadyH.cons rfl (fun K hK => ?_) AllReadyH.nil
  go_simp
  go_wp2_with (go_at_call 25; refine (CT.out _ (hB.trans (Below.mono (held3x (by assumption)) hB.size))).mono ?_; rintro e w4 ⟨⟨G, rfl, hg⟩, hb4⟩; obtain ⟨gb, off2, he, hgb, so⟩ := hg.at_ (Nat.lt_succ_self i); cases he; rw [Nat.zero_add] at so)
  refine hK.out _ _ ?_ (fun hHeld => ?_)
  · (try dsimp only); (suffices hBB : Below w1.heap.size w1 _ from ⟨(hBB.cell hl0).trans q0, (hBB.cell hl0).trans q1, hBB⟩; first | exact Below.drew (Below.refl _ _) | exact held3x (by assumption) | (refine stepB (held3x (by assumption)) ?_; assumption))
  clear hK K
  (try simp only [Act.put, List.getElem_toArray, List.getElem_cons_zero, List.getElem_cons_succ, List.setIfInBounds_toArray, List.set_cons_zero, List.set_cons_succ])
  refine wpAnyH_take (i := 9) (v := .pointer (some ⟨G, i, none⟩)) rfl (by kernel_rfl) (by kernel_rfl) (by kernel_rfl) (fun _ _ _ h => h) (Or.inl ⟨by rfl, ?_⟩) (by assumption) ?_
  · intro w' hSw; (try dsimp only at hSw); go_simp
  (try simp only [Act.put, List.getElem_toArray, List.getElem_cons_zero, List.getElem_cons_succ, List.setIfInBounds_toArray, List.set_cons_zero, List.set_cons_succ])
  refine wpAnyH_ready (rs := [10]) (by kernel_rfl) (by simp) ?_
  refine AllReadyH.cons rfl (fun K hK => ?_) AllReadyH.nil
  go_simp
  (try go_wp2_with fail)
  refine hK.out _ _ ?_ (fun hHeld => ?_)
  · (try dsimp only); (suffices hBB : Below w1.heap.size w1 _ from ⟨(hBB.cell hl0).trans q0, (hBB.cell hl0).trans q1, hBB⟩; first | exact Below.drew (Below.refl _ _) | exact held3x (by assumption) | (refine stepB (held3x (by assumption)) ?_; assumption))
  clear hK K
  (try simp only [Act.put, List.getElem_toArray, List.getElem_cons_zero, List.getElem_cons_succ, List.setIfInBounds_toArray, List.set_cons_zero, List.set_cons_succ])
  refine wpAnyH_ready (rs := [11]) (by kernel_rfl) (by simp) ?_
  refine AllReadyH.cons rfl (fun K hK => ?_) AllReadyH.nil
  go_simp
  (try go_wp2_with fail)
  refine hK.out _ _ ?_ (fun hHeld => ?_)
  · (try dsimp only); (suffices hBB : Below w1.heap.size w1 _ from ⟨(hBB.cell hl0).trans q0, (hBB.cell hl0).trans q1, hBB⟩; first | exact Below.drew (Below.refl _ _) | exact held3x (by assumption) | (refine stepB (held3x (by assumption)) ?_; assumption))
  clear hK K
  (try simp only [Act.put, List.getElem_toArray, List.getElem_cons_zero, List.getElem_cons_succ, List.setIfInBounds_toArray, List.set_cons_zero, List.set_cons_succ])
  refine wpAnyH_done (by kernel_rfl) ?_ _
  go_wp2_with (go_at_call 26; refine (CC.out _).mono ?_; rintro e w6 ⟨rfl, hb6⟩)
  go_ret2
  exact ⟨rfl, (hB.trans (Below.mono (held3x (by assumption)) hB.size)).trans (hb6.mono (hB.trans (Below.mono (held3x (by assumption)) hB.size)).size)⟩


theorem specFx_any (lo : Nat) (P : Prg) (Av Ax As Ap Ab : Option Addr) (cv cx cs cp cb : Nat) (m : Int) (w : World) (hs : P.small) (hcv : P.nv ≤ cv) (hcp : P.np ≤ cp) (h : PgAt lo w Av Ax As Ap Ab P) :
    Calls Tryz.prog 5 #[.agg #[.slice Av P.nv cv, .slice Ax P.nx cx, .slice As P.ns cs, .slice Ap P.np cp, .slice Ab P.nb cb, .int .i64 P.fuel], .int .i64 m] w fun e w' => e = .returned (.tuple #[.string (fxS P m), .bool (fxB P m)]) ∧ Below w.heap.size w w' := by
  by_cases F0 : PgOk P
  · by_cases G0 : 0 ≤ m ∧ m < (P.nx : Int)
    · have hp : 1 ≤ (full P.ex P.vn m.toNat).size := full_pos F0.2.1.2 (fun j hj => (F0.1.sizes j hj).1) (by omega)
      by_cases S0 : (full P.ex P.vn m.toNat).size ≤ 6000
      · have e : fxS P m = full P.ex P.vn m.toNat := by rw [fx_yes ⟨F0, G0⟩, capT, if_pos S0]
        have e2 : fxB P m = true := by rw [fxB, e, ne_filled hp]
        rw [e, e2]
        exact specFx_any3 lo P Av Ax As Ap Ab cv cx cs cp cb m w hs hcv hcp h F0 G0 S0
      · have e : fxS P m = ⟨#[]⟩ := by rw [fx_yes ⟨F0, G0⟩, capT, if_neg S0]
        have e2 : fxB P m = false := by rw [fxB, e, nil_list]; rfl
        rw [e, e2]
        exact specFx_any4 lo P Av Ax As Ap Ab cv cx cs cp cb m w hs hcv hcp h F0 G0 (by omega)
    · have hy := fx_no (P := P) (m := m) (fun h => G0 h.2)
      rw [hy.1, hy.2]
      exact specFx_any2 lo P Av Ax As Ap Ab cv cx cs cp cb m w hs hcv hcp h F0 G0
  · have hy := fx_no (P := P) (m := m) (fun h => F0 h.1)
    rw [hy.1, hy.2]
    exact specFx_any1 lo P Av Ax As Ap Ab cv cx cs cp cb m w hs hcv hcp h F0
theorem implFx_any (lo : Nat) (P : Prg) (Av Ax As Ap Ab : Option Addr) (cv cx cs cp cb : Nat) (m : Int) (w : World) (hs : P.small) (hcx : P.nx ≤ cx) (h : PgAt lo w Av Ax As Ap Ab P) :
    Calls Tryz.prog 7 #[.agg #[.slice Av P.nv cv, .slice Ax P.nx cx, .slice As P.ns cs, .slice Ap P.np cp, .slice Ab P.nb cb, .int .i64 P.fuel], .int .i64 m] w fun e w' => e = .returned (.tuple #[.string (fxS P m), .bool (fxB P m)]) ∧ Below w.heap.size w w' := by
  by_cases F0 : PgOk P
  · by_cases G0 : 0 ≤ m ∧ m < (P.nx : Int)
    · have e := fx_yes (P := P) (m := m) ⟨F0, G0⟩
      have e2 : fxB P m = !(capT P.ex P.vn m.toNat).toList.isEmpty := by rw [fxB, e]
      rw [e, e2]
      exact implFx_any3 lo P Av Ax As Ap Ab cv cx cs cp cb m w hs hcx h F0 G0
    · have hy := fx_no (P := P) (m := m) (fun h => G0 h.2)
      rw [hy.1, hy.2]
      exact implFx_any2 lo P Av Ax As Ap Ab cv cx cs cp cb m w hs hcx h F0 G0
  · have hy := fx_no (P := P) (m := m) (fun h => F0 h.1)
    rw [hy.1, hy.2]
    exact implFx_any1 lo P Av Ax As Ap Ab cv cx cs cp cb m w hs hcx h F0

end Go.Proofs.YtoaiejodbmkbjaaGreatDoor
