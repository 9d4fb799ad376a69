/-
  VarsOfExpr: the model's and the program's. (Written by gen_pgvo9.py.)
-/
import Derived.Test.YtcdgbjklfmlhkaaPgVo3
import Derived.Test.YtcdgbjklfmlhkaaPgVo5
import Derived.Test.YtcdgbjklfmlhkaaPgVi
namespace Go.Proofs.Ytcdgbjklfmlhkaa
open Go.RowKit Num

/-- The arguments are as they must be. -/
def VoOk (P : Prg) (m : Int) : Prop := PgOk P ∧ 0 ≤ m ∧ m < (P.nx : Int)
open Classical in
noncomputable def voL (P : Prg) (m : Int) : List Int := if VoOk P m then ups (vI P.ex m.toNat (m.toNat + 1)) 5 else []
open Classical in
noncomputable def voB (P : Prg) (m : Int) : Bool := if VoOk P m then true else false
noncomputable def voN (P : Prg) (m : Int) : Nat := (voL P m).length
noncomputable def voF (P : Prg) (m : Int) : Nat → Int := fun j => (voL P m).getD j 0
theorem voN_le (P : Prg) (m : Int) : voN P m ≤ 1048576 := by
  unfold voN voL
  split
  · exact Nat.le_trans (ups_le _ _) (by omega)
  · simp
theorem vo_no {P : Prg} {m : Int} (h : ¬ VoOk P m) : voL P m = [] ∧ voB P m = false := ⟨if_neg h, if_neg h⟩
theorem vo_yes {P : Prg} {m : Int} (h : VoOk P m) : voL P m = ups (vI P.ex m.toNat (m.toNat + 1)) 5 ∧ voB P m = true := ⟨if_pos h, if_pos h⟩
theorem exsOk_left {F : Nat → Nat → Int} {m n k : Nat} (h : exsOk F m n = true) (hk : k < n) : exsOk F m (k + 1) = true := by
  by_cases hf : exsOk F m (k + 1) = true
  · exact hf
  · have := exsOk_up (show k + 1 ≤ n by omega) (by simpa using hf)
    rw [this] at h
    cases h

set_option maxRecDepth 100000 in
set_option maxHeartbeats 3200000 in
theorem specVo_any1 (lo : Nat) (P : Prg) (Av Ax As Ap Ab : Option Addr) (cv cx cs cp cb : Nat) (m : Int) (w : World) (hs : P.small) (hcv : P.nv ≤ cv) (hcp : P.np ≤ cp) (h : PgAt lo w Av Ax As Ap Ab P) (F0 : ¬ PgOk P) :
    Calls Try.prog 19 #[.agg #[.slice Av P.nv cv, .slice Ax P.nx cx, .slice As P.ns cs, .slice Ap P.np cp, .slice Ab P.nb cb, .int .i64 P.fuel], .int .i64 m] w fun e w' => ∃ A c, e = .returned (.tuple #[.slice A (([] : List Int)).length c, .bool false]) ∧ LsAt w.heap.size w' A (([] : List Int)) ∧ Below w.heap.size w w' := by
  have hP := Box.new w 37 #[.slice Av P.nv cv, .slice Ax P.nx cx, .slice As P.ns cs, .slice Ap P.np cp, .slice Ab P.nb cb, .int .i64 P.fuel]
  have hB := (Below.refl w.heap.size w).alloc (Nat.le_refl _) (.cells #[.slice Av P.nv cv, .slice Ax P.nx cx, .slice As P.ns cs, .slice Ap P.np cp, .slice Ab P.nb cb, .int .i64 P.fuel] 37)
  obtain ⟨q0, q1, q2, q3, q4, q5, qf⟩ := hP.six
  have H := Lib.hid h
  have HSM := Lib.hid hs
  have wn : IntKind.i64.wrap ((P.nx : Int) - 1) = (P.nx : Int) - 1 := IntWalk.i64_in _ (by have := hs.nx; omega)
  have CN : Hid (∀ W, _) := Lib.hid fun W => in3_any m 0 ((P.nx : Int) - 1) W
  clear h hs
  have F := Lib.hid F0
  clear F0
  go_enter Try.func19, Try.ntmps19
  go_wp2_with (first
      | (go_at_call 46
         refine (specVal_any lo P Av Ax As Ap Ab cv cx cs cp cb _ HSM.out hcv hcp (H.out.below hB (Nat.le_refl _))).mono ?_
         rintro e w1 ⟨r, rfl, hr, hb⟩
         obtain rfl : r = false := by cases r with | false => rfl | true => exact absurd (hr.out.1 rfl) F.out
         clear q0 q1 q2 q3 q4 q5 qf hr
         replace hP := hP.below hb hP.lt
         replace hB := hB.trans (hb.mono hB.size)
         clear hb
         obtain ⟨q0, q1, q2, q3, q4, q5, qf⟩ := hP.six))
  go_ret2
  exact ⟨none, 0, rfl, fun h => absurd h (Nat.lt_irrefl 0), hB⟩

set_option maxRecDepth 100000 in
set_option maxHeartbeats 3200000 in
theorem specVo_any2 (lo : Nat) (P : Prg) (Av Ax As Ap Ab : Option Addr) (cv cx cs cp cb : Nat) (m : Int) (w : World) (hs : P.small) (hcv : P.nv ≤ cv) (hcp : P.np ≤ cp) (h : PgAt lo w Av Ax As Ap Ab P) (F0 : PgOk P) (G0 : ¬ (0 ≤ m ∧ m < (P.nx : Int))) :
    Calls Try.prog 19 #[.agg #[.slice Av P.nv cv, .slice Ax P.nx cx, .slice As P.ns cs, .slice Ap P.np cp, .slice Ab P.nb cb, .int .i64 P.fuel], .int .i64 m] w fun e w' => ∃ A c, e = .returned (.tuple #[.slice A (([] : List Int)).length c, .bool false]) ∧ LsAt w.heap.size w' A (([] : List Int)) ∧ Below w.heap.size w w' := by
  have hP := Box.new w 37 #[.slice Av P.nv cv, .slice Ax P.nx cx, .slice As P.ns cs, .slice Ap P.np cp, .slice Ab P.nb cb, .int .i64 P.fuel]
  have hB := (Below.refl w.heap.size w).alloc (Nat.le_refl _) (.cells #[.slice Av P.nv cv, .slice Ax P.nx cx, .slice As P.ns cs, .slice Ap P.np cp, .slice Ab P.nb cb, .int .i64 P.fuel] 37)
  obtain ⟨q0, q1, q2, q3, q4, q5, qf⟩ := hP.six
  have H := Lib.hid h
  have HSM := Lib.hid hs
  have wn : IntKind.i64.wrap ((P.nx : Int) - 1) = (P.nx : Int) - 1 := IntWalk.i64_in _ (by have := hs.nx; omega)
  have CN : Hid (∀ W, _) := Lib.hid fun W => in3_any m 0 ((P.nx : Int) - 1) W
  clear h hs
  have F := Lib.hid F0
  have hd : decide ((0 : Int) ≤ m ∧ m ≤ (P.nx : Int) - 1) = false := decide_eq_false (by omega)
  rw [hd] at CN
  clear hd F0 G0
  go_enter Try.func19, Try.ntmps19
  go_wp2_with (first
      | (go_at_call 46
         refine (specVal_any lo P Av Ax As Ap Ab cv cx cs cp cb _ HSM.out hcv hcp (H.out.below hB (Nat.le_refl _))).mono ?_
         rintro e w1 ⟨r, rfl, hr, hb⟩
         obtain rfl : r = true := hr.out.2 F.out
         clear q0 q1 q2 q3 q4 q5 qf hr
         replace hP := hP.below hb hP.lt
         replace hB := hB.trans (hb.mono hB.size)
         clear hb
         obtain ⟨q0, q1, q2, q3, q4, q5, qf⟩ := hP.six)
      | (go_at_call 47
         refine (CN.out _).mono ?_
         rintro e w2 ⟨rfl, rfl⟩))
  go_ret2
  exact ⟨none, 0, rfl, fun h => absurd h (Nat.lt_irrefl 0), hB⟩

set_option maxRecDepth 100000 in
set_option maxHeartbeats 3200000 in
theorem specVo_any3 (lo : Nat) (P : Prg) (Av Ax As Ap Ab : Option Addr) (cv cx cs cp cb : Nat) (m : Int) (w : World) (hs : P.small) (hcv : P.nv ≤ cv) (hcp : P.np ≤ cp) (h : PgAt lo w Av Ax As Ap Ab P) (F0 : PgOk P) (G0 : 0 ≤ m ∧ m < (P.nx : Int)) :
    Calls Try.prog 19 #[.agg #[.slice Av P.nv cv, .slice Ax P.nx cx, .slice As P.ns cs, .slice Ap P.np cp, .slice Ab P.nb cb, .int .i64 P.fuel], .int .i64 m] w fun e w' => ∃ A c, e = .returned (.tuple #[.slice A (ups (vI P.ex m.toNat (m.toNat + 1)) 5).length c, .bool true]) ∧ LsAt w.heap.size w' A (ups (vI P.ex m.toNat (m.toNat + 1)) 5) ∧ Below w.heap.size w w' := by
  have hP := Box.new w 37 #[.slice Av P.nv cv, .slice Ax P.nx cx, .slice As P.ns cs, .slice Ap P.np cp, .slice Ab P.nb cb, .int .i64 P.fuel]
  have hB := (Below.refl w.heap.size w).alloc (Nat.le_refl _) (.cells #[.slice Av P.nv cv, .slice Ax P.nx cx, .slice As P.ns cs, .slice Ap P.np cp, .slice Ab P.nb cb, .int .i64 P.fuel] 37)
  obtain ⟨q0, q1, q2, q3, q4, q5, qf⟩ := hP.six
  have H := Lib.hid h
  have HSM := Lib.hid hs
  have wn : IntKind.i64.wrap ((P.nx : Int) - 1) = (P.nx : Int) - 1 := IntWalk.i64_in _ (by have := hs.nx; omega)
  have CN : Hid (∀ W, _) := Lib.hid fun W => in3_any m 0 ((P.nx : Int) - 1) W
  clear h hs
  have F := Lib.hid F0
  have hd : decide ((0 : Int) ≤ m ∧ m ≤ (P.nx : Int) - 1) = true := decide_eq_true (by omega)
  rw [hd] at CN
  clear hd
  obtain ⟨i, rfl⟩ : ∃ i : Nat, m = (i : Int) := ⟨m.toNat, by omega⟩
  rw [Int.toNat_natCast]
  have hi0 : i < P.nx := by omega
  have hnx := F0.2.1.1
  have hnv : P.nv ≤ 5 := F0.1.2.2
  have HX := Lib.hid F0.2.1.2
  clear G0 F0
  go_enter Try.func19, Try.ntmps19
  go_wp2_with (first
      | (go_at_call 46
         refine (specVal_any lo P Av Ax As Ap Ab cv cx cs cp cb _ HSM.out hcv hcp (H.out.below hB (Nat.le_refl _))).mono ?_
         rintro e w1 ⟨r, rfl, hr, hb⟩
         obtain rfl : r = true := hr.out.2 F.out
         clear q0 q1 q2 q3 q4 q5 qf hr
         replace hP := hP.below hb hP.lt
         replace hB := hB.trans (hb.mono hB.size)
         clear hb
         obtain ⟨q0, q1, q2, q3, q4, q5, qf⟩ := hP.six)
      | (go_at_call 47
         refine (CN.out _).mono ?_
         rintro e w2 ⟨rfl, rfl⟩)
      | (go_at_call 62
         refine (varsOf_any lo P Av Ax As Ap Ab cv cx cs cp cb i _ HX.out hnx hnv hi0 (H.out.below hB (Nat.le_refl _)).x).mono ?_
         rintro e w4 ⟨A4, c4, rfl, hl4, hb⟩))
  go_ret2
  exact ⟨A4, c4, rfl, hl4.low hB.size, hB.trans (hb.mono hB.size)⟩

theorem specVo_any (lo : Nat) (P : Prg) (Av Ax As Ap Ab : Option Addr) (cv cx cs cp cb : Nat) (m : Int) (w : World) (hs : P.small) (hcv : P.nv ≤ cv) (hcp : P.np ≤ cp) (h : PgAt lo w Av Ax As Ap Ab P) :
    Calls Try.prog 19 #[.agg #[.slice Av P.nv cv, .slice Ax P.nx cx, .slice As P.ns cs, .slice Ap P.np cp, .slice Ab P.nb cb, .int .i64 P.fuel], .int .i64 m] w fun e w' => ∃ A c, e = .returned (.tuple #[.slice A (voN P m) c, .bool (voB P m)]) ∧ IntsAt w.heap.size w' A (voN P m) (voF P m) ∧ Below w.heap.size w w' := by
  by_cases F0 : PgOk P
  · by_cases G0 : 0 ≤ m ∧ m < (P.nx : Int)
    · have hy := vo_yes (P := P) (m := m) ⟨F0, G0⟩
      refine (specVo_any3 lo P Av Ax As Ap Ab cv cx cs cp cb m w hs hcv hcp h F0 G0).mono ?_
      rintro e w' ⟨A, c, he, hl, hb⟩
      exact ⟨A, c, by rw [voN, hy.1, hy.2]; exact he, by unfold voN voF; rw [hy.1]; exact hl, hb⟩
    · have hy := vo_no (P := P) (m := m) (fun h => G0 h.2)
      refine (specVo_any2 lo P Av Ax As Ap Ab cv cx cs cp cb m w hs hcv hcp h F0 G0).mono ?_
      rintro e w' ⟨A, c, he, hl, hb⟩
      exact ⟨A, c, by rw [voN, hy.1, hy.2]; exact he, by unfold voN voF; rw [hy.1]; exact hl, hb⟩
  · have hy := vo_no (P := P) (m := m) (fun h => F0 h.1)
    refine (specVo_any1 lo P Av Ax As Ap Ab cv cx cs cp cb m w hs hcv hcp h F0).mono ?_
    rintro e w' ⟨A, c, he, hl, hb⟩
    exact ⟨A, c, by rw [voN, hy.1, hy.2]; exact he, by unfold voN voF; rw [hy.1]; exact hl, hb⟩

set_option maxRecDepth 100000 in
set_option maxHeartbeats 3200000 in
theorem implVo_any1 (lo : Nat) (P : Prg) (Av Ax As Ap Ab : Option Addr) (cv cx cs cp cb : Nat) (m : Int) (w : World) (hs : P.small) (_hcx : P.nx ≤ cx) (h : PgAt lo w Av Ax As Ap Ab P) (F0 : ¬ PgOk P) :
    Calls Try.prog 20 #[.agg #[.slice Av P.nv cv, .slice Ax P.nx cx, .slice As P.ns cs, .slice Ap P.np cp, .slice Ab P.nb cb, .int .i64 P.fuel], .int .i64 m] w fun e w' => ∃ A c, e = .returned (.tuple #[.slice A (([] : List Int)).length c, .bool false]) ∧ LsAt w.heap.size w' A (([] : List Int)) ∧ Below w.heap.size w w' := by
  have hP := Box.new w 37 #[.slice Av P.nv cv, .slice Ax P.nx cx, .slice As P.ns cs, .slice Ap P.np cp, .slice Ab P.nb cb, .int .i64 P.fuel]
  have hB := (Below.refl w.heap.size w).alloc (Nat.le_refl _) (.cells #[.slice Av P.nv cv, .slice Ax P.nx cx, .slice As P.ns cs, .slice Ap P.np cp, .slice Ab P.nb cb, .int .i64 P.fuel] 37)
  obtain ⟨q0, q1, q2, q3, q4, q5, qf⟩ := hP.six
  have H := Lib.hid h
  have HSM := Lib.hid hs
  
  have CN : Hid (∀ W, _) := Lib.hid fun W => idx_any m (P.nx : Int) W
  clear h hs
  have F := Lib.hid F0
  clear F0
  go_enter Try.func20, Try.ntmps20
  go_wp2_with (first
      | (go_at_call 54
         refine (implValid_any lo P Av _ As Ap Ab cv cx cs cp cb _ HSM.out (H.out.below hB (Nat.le_refl _))).mono ?_
         rintro e w1 ⟨r, rfl, hr, hb⟩
         obtain rfl : r = false := by cases r with | false => rfl | true => exact absurd (hr.out.1 rfl) F.out
         clear q0 q1 q2 q3 q4 q5 qf hr
         replace hP := hP.below hb hP.lt
         replace hB := hB.trans (hb.mono hB.size)
         clear hb
         obtain ⟨q0, q1, q2, q3, q4, q5, qf⟩ := hP.six))
  go_ret2
  exact ⟨none, 0, rfl, fun h => absurd h (Nat.lt_irrefl 0), hB⟩

set_option maxRecDepth 100000 in
set_option maxHeartbeats 3200000 in
theorem implVo_any2 (lo : Nat) (P : Prg) (Av Ax As Ap Ab : Option Addr) (cv cx cs cp cb : Nat) (m : Int) (w : World) (hs : P.small) (_hcx : P.nx ≤ cx) (h : PgAt lo w Av Ax As Ap Ab P) (F0 : PgOk P) (G0 : ¬ (0 ≤ m ∧ m < (P.nx : Int))) :
    Calls Try.prog 20 #[.agg #[.slice Av P.nv cv, .slice Ax P.nx cx, .slice As P.ns cs, .slice Ap P.np cp, .slice Ab P.nb cb, .int .i64 P.fuel], .int .i64 m] w fun e w' => ∃ A c, e = .returned (.tuple #[.slice A (([] : List Int)).length c, .bool false]) ∧ LsAt w.heap.size w' A (([] : List Int)) ∧ Below w.heap.size w w' := by
  have hP := Box.new w 37 #[.slice Av P.nv cv, .slice Ax P.nx cx, .slice As P.ns cs, .slice Ap P.np cp, .slice Ab P.nb cb, .int .i64 P.fuel]
  have hB := (Below.refl w.heap.size w).alloc (Nat.le_refl _) (.cells #[.slice Av P.nv cv, .slice Ax P.nx cx, .slice As P.ns cs, .slice Ap P.np cp, .slice Ab P.nb cb, .int .i64 P.fuel] 37)
  obtain ⟨q0, q1, q2, q3, q4, q5, qf⟩ := hP.six
  have H := Lib.hid h
  have HSM := Lib.hid hs
  
  have CN : Hid (∀ W, _) := Lib.hid fun W => idx_any m (P.nx : Int) W
  clear h hs
  have F := Lib.hid F0
  have hd : decide ((0 : Int) ≤ m ∧ m < (P.nx : Int)) = false := decide_eq_false (by omega)
  rw [hd] at CN
  clear hd F0 G0
  go_enter Try.func20, Try.ntmps20
  go_wp2_with (first
      | (go_at_call 54
         refine (implValid_any lo P Av _ As Ap Ab cv cx cs cp cb _ HSM.out (H.out.below hB (Nat.le_refl _))).mono ?_
         rintro e w1 ⟨r, rfl, hr, hb⟩
         obtain rfl : r = true := hr.out.2 F.out
         clear q0 q1 q2 q3 q4 q5 qf hr
         replace hP := hP.below hb hP.lt
         replace hB := hB.trans (hb.mono hB.size)
         clear hb
         obtain ⟨q0, q1, q2, q3, q4, q5, qf⟩ := hP.six)
      | (go_at_call 55
         refine (CN.out _).mono ?_
         rintro e w2 ⟨rfl, rfl⟩))
  go_ret2
  exact ⟨none, 0, rfl, fun h => absurd h (Nat.lt_irrefl 0), hB⟩

set_option maxRecDepth 100000 in
set_option maxHeartbeats 3200000 in
theorem implVo_any3 (lo : Nat) (P : Prg) (Av Ax As Ap Ab : Option Addr) (cv cx cs cp cb : Nat) (m : Int) (w : World) (hs : P.small) (hcx : P.nx ≤ cx) (h : PgAt lo w Av Ax As Ap Ab P) (F0 : PgOk P) (G0 : 0 ≤ m ∧ m < (P.nx : Int)) :
    Calls Try.prog 20 #[.agg #[.slice Av P.nv cv, .slice Ax P.nx cx, .slice As P.ns cs, .slice Ap P.np cp, .slice Ab P.nb cb, .int .i64 P.fuel], .int .i64 m] w fun e w' => ∃ A c, e = .returned (.tuple #[.slice A (ups (vI P.ex m.toNat (m.toNat + 1)) 5).length c, .bool true]) ∧ LsAt w.heap.size w' A (ups (vI P.ex m.toNat (m.toNat + 1)) 5) ∧ Below w.heap.size w w' := by
  have hP := Box.new w 37 #[.slice Av P.nv cv, .slice Ax P.nx cx, .slice As P.ns cs, .slice Ap P.np cp, .slice Ab P.nb cb, .int .i64 P.fuel]
  have hB := (Below.refl w.heap.size w).alloc (Nat.le_refl _) (.cells #[.slice Av P.nv cv, .slice Ax P.nx cx, .slice As P.ns cs, .slice Ap P.np cp, .slice Ab P.nb cb, .int .i64 P.fuel] 37)
  obtain ⟨q0, q1, q2, q3, q4, q5, qf⟩ := hP.six
  have H := Lib.hid h
  have HSM := Lib.hid hs
  
  have CN : Hid (∀ W, _) := Lib.hid fun W => idx_any m (P.nx : Int) W
  clear h hs
  have F := Lib.hid F0
  have hd : decide ((0 : Int) ≤ m ∧ m < (P.nx : Int)) = true := decide_eq_true (by omega)
  rw [hd] at CN
  clear hd
  obtain ⟨i, rfl⟩ : ∃ i : Nat, m = (i : Int) := ⟨m.toNat, by omega⟩
  rw [Int.toNat_natCast]
  have hi0 : i < P.nx := by omega
  have hnx := F0.2.1.1
  have hnv : P.nv ≤ 5 := F0.1.2.2
  have HX := Lib.hid F0.2.1.2
  clear G0 F0
  obtain ⟨b, off, rfl, hbb, hcc⟩ := H.out.x.1 (show 0 < P.nx by omega)
  have HBB := Lib.hid hbb
  have HC := Lib.hid hcc
  clear hbb hcc
  replace HX := Lib.hid (exsOk_left HX.out hi0)
  have wi : IntKind.i64.wrap ((i : Int) + 1) = ((i + 1 : Nat) : Int) := by rw [IntWalk.i64_in _ (by omega)]; omega
  replace hnx : i + 1 ≤ 40 := by omega
  have hs1 : ((i + 1 : Nat) : Int) ≤ (cx : Int) := by omega
  have hs2 : ((i + 1 : Nat) : Int) ≤ (P.nx : Int) := by omega
  have hs3 : ¬ (cx = 0) := by omega
  go_enter Try.func20, Try.ntmps20
  go_wp2_with (first
      | (go_at_call 54
         refine (implValid_any lo P Av _ As Ap Ab cv cx cs cp cb _ HSM.out (H.out.below hB (Nat.le_refl _))).mono ?_
         rintro e w1 ⟨r, rfl, hr, hb⟩
         obtain rfl : r = true := hr.out.2 F.out
         clear q0 q1 q2 q3 q4 q5 qf hr
         replace hP := hP.below hb hP.lt
         replace hB := hB.trans (hb.mono hB.size)
         clear hb
         obtain ⟨q0, q1, q2, q3, q4, q5, qf⟩ := hP.six)
      | (go_at_call 55
         refine (CN.out _).mono ?_
         rintro e w2 ⟨rfl, rfl⟩)
      | (go_at_call 63
         refine (callsIn_wide.1 (occ_in b off cx (i + 1) P.nv P.ex _ HX.out hnv (Nat.succ_pos _) hnx (Nat.lt_of_lt_of_le HBB.out hB.size) (fun j hj c hc => (hB.cell (p := ⟨b, off + (j * 4 + c), none⟩) HBB.out).trans (HC.out j (by omega) c hc)))).mono ?_
         rintro e w4 ⟨A4, c4, rfl, hl4, hb⟩))
  go_ret2
  exact ⟨A4, c4, rfl, hl4.low hB.size, hB.trans (hb.mono hB.size)⟩

theorem implVo_any (lo : Nat) (P : Prg) (Av Ax As Ap Ab : Option Addr) (cv cx cs cp cb : Nat) (m : Int) (w : World) (hs : P.small) (hcx : P.nx ≤ cx) (h : PgAt lo w Av Ax As Ap Ab P) :
    Calls Try.prog 20 #[.agg #[.slice Av P.nv cv, .slice Ax P.nx cx, .slice As P.ns cs, .slice Ap P.np cp, .slice Ab P.nb cb, .int .i64 P.fuel], .int .i64 m] w fun e w' => ∃ A c, e = .returned (.tuple #[.slice A (voN P m) c, .bool (voB P m)]) ∧ IntsAt w.heap.size w' A (voN P m) (voF P m) ∧ Below w.heap.size w w' := by
  by_cases F0 : PgOk P
  · by_cases G0 : 0 ≤ m ∧ m < (P.nx : Int)
    · have hy := vo_yes (P := P) (m := m) ⟨F0, G0⟩
      refine (implVo_any3 lo P Av Ax As Ap Ab cv cx cs cp cb m w hs hcx h F0 G0).mono ?_
      rintro e w' ⟨A, c, he, hl, hb⟩
      exact ⟨A, c, by rw [voN, hy.1, hy.2]; exact he, by unfold voN voF; rw [hy.1]; exact hl, hb⟩
    · have hy := vo_no (P := P) (m := m) (fun h => G0 h.2)
      refine (implVo_any2 lo P Av Ax As Ap Ab cv cx cs cp cb m w hs hcx h F0 G0).mono ?_
      rintro e w' ⟨A, c, he, hl, hb⟩
      exact ⟨A, c, by rw [voN, hy.1, hy.2]; exact he, by unfold voN voF; rw [hy.1]; exact hl, hb⟩
  · have hy := vo_no (P := P) (m := m) (fun h => F0 h.1)
    refine (implVo_any1 lo P Av Ax As Ap Ab cv cx cs cp cb m w hs hcx h F0).mono ?_
    rintro e w' ⟨A, c, he, hl, hb⟩
    exact ⟨A, c, by rw [voN, hy.1, hy.2]; exact he, by unfold voN voF; rw [hy.1]; exact hl, hb⟩

end Go.Proofs.Ytcdgbjklfmlhkaa
