/-
  The model's test of the fields that a statement's kind does not use. (Written by a program: one walk a kind.)
-/
import Derived.Test.YtoaiejodbmkbjaaGreatDoorPgOk3
namespace Go.Proofs.YtoaiejodbmkbjaaGreatDoor
open Go.RowKit Num

/-- The fields that a kind does not use are empty; the Bools say which it uses. -/
def Uses (s : Stm) (v e t p th el : Bool) : Prop := (v = false → s.var = 0) ∧ (e = false → s.ex = 0) ∧ (t = false → s.times = 0) ∧ (p = false → s.proc = 0) ∧ (th = false → s.nt = 0) ∧ (el = false → s.ne = 0) ∧ (s.kind = 3 ∨ s.nc = 0)

set_option maxRecDepth 100000 in
set_option maxHeartbeats 1600000 in
theorem usesSkip_any (s : Stm) (A3 A4 A5 : Option Addr) (c3 c4 c5 : Nat) (w : World) (hk : s.kind = 1) :
    Calls Tryz.prog 60 #[.agg #[.int .i64 s.kind, .int .i64 s.var, .int .i64 s.ex, .slice A3 s.nc c3, .slice A4 s.nt c4, .slice A5 s.ne c5, .int .i64 s.times, .int .i64 s.proc], .bool false, .bool false, .bool false, .bool false, .bool false, .bool false] w (Yn (Uses s false false false false false false) w) := by
  have hP := Box.new w 77 #[.int .i64 s.kind, .int .i64 s.var, .int .i64 s.ex, .slice A3 s.nc c3, .slice A4 s.nt c4, .slice A5 s.ne c5, .int .i64 s.times, .int .i64 s.proc]
  obtain ⟨q0, q1, q2, q3, q4, q5, q6, q7, qf⟩ := hP.eight
  have e8 : (s.kind == 3) = false := by rw [hk]; rfl
  have HK := Lib.hid hk
  clear hk
  go_enter Tryz.func60, Tryz.ntmps60
  go_wp2_with fail
  all_goals go_ret
  all_goals refine ⟨_, rfl, Lib.hid ?_, (Below.refl _ w).alloc (Nat.le_refl _) _⟩
  all_goals have hk := HK.out
  all_goals clear q0 q1 q2 q3 q4 q5 q6 q7 qf hP HK
  all_goals first
    | (simp [Uses, *]; done)
    | (simp [Uses, *]; omega)
    | (simp_all [Uses]; done)
    | (simp_all [Uses]; omega)

set_option maxRecDepth 100000 in
set_option maxHeartbeats 1600000 in
theorem usesAssign_any (s : Stm) (A3 A4 A5 : Option Addr) (c3 c4 c5 : Nat) (w : World) (hk : s.kind = 2) :
    Calls Tryz.prog 60 #[.agg #[.int .i64 s.kind, .int .i64 s.var, .int .i64 s.ex, .slice A3 s.nc c3, .slice A4 s.nt c4, .slice A5 s.ne c5, .int .i64 s.times, .int .i64 s.proc], .bool true, .bool true, .bool false, .bool false, .bool false, .bool false] w (Yn (Uses s true true false false false false) w) := by
  have hP := Box.new w 77 #[.int .i64 s.kind, .int .i64 s.var, .int .i64 s.ex, .slice A3 s.nc c3, .slice A4 s.nt c4, .slice A5 s.ne c5, .int .i64 s.times, .int .i64 s.proc]
  obtain ⟨q0, q1, q2, q3, q4, q5, q6, q7, qf⟩ := hP.eight
  have e8 : (s.kind == 3) = false := by rw [hk]; rfl
  have HK := Lib.hid hk
  clear hk
  go_enter Tryz.func60, Tryz.ntmps60
  go_wp2_with fail
  all_goals go_ret
  all_goals refine ⟨_, rfl, Lib.hid ?_, (Below.refl _ w).alloc (Nat.le_refl _) _⟩
  all_goals have hk := HK.out
  all_goals clear q0 q1 q2 q3 q4 q5 q6 q7 qf hP HK
  all_goals first
    | (simp [Uses, *]; done)
    | (simp [Uses, *]; omega)
    | (simp_all [Uses]; done)
    | (simp_all [Uses]; omega)

set_option maxRecDepth 100000 in
set_option maxHeartbeats 1600000 in
theorem usesSample_any (s : Stm) (A3 A4 A5 : Option Addr) (c3 c4 c5 : Nat) (w : World) (hk : s.kind = 3) :
    Calls Tryz.prog 60 #[.agg #[.int .i64 s.kind, .int .i64 s.var, .int .i64 s.ex, .slice A3 s.nc c3, .slice A4 s.nt c4, .slice A5 s.ne c5, .int .i64 s.times, .int .i64 s.proc], .bool true, .bool false, .bool false, .bool false, .bool false, .bool false] w (Yn (Uses s true false false false false false) w) := by
  have hP := Box.new w 77 #[.int .i64 s.kind, .int .i64 s.var, .int .i64 s.ex, .slice A3 s.nc c3, .slice A4 s.nt c4, .slice A5 s.ne c5, .int .i64 s.times, .int .i64 s.proc]
  obtain ⟨q0, q1, q2, q3, q4, q5, q6, q7, qf⟩ := hP.eight
  have e8 : (s.kind == 3) = true := by rw [hk]; rfl
  have HK := Lib.hid hk
  clear hk
  go_enter Tryz.func60, Tryz.ntmps60
  go_wp2_with fail
  all_goals go_ret
  all_goals refine ⟨_, rfl, Lib.hid ?_, (Below.refl _ w).alloc (Nat.le_refl _) _⟩
  all_goals have hk := HK.out
  all_goals clear q0 q1 q2 q3 q4 q5 q6 q7 qf hP HK
  all_goals first
    | (simp [Uses, *]; done)
    | (simp [Uses, *]; omega)
    | (simp_all [Uses]; done)
    | (simp_all [Uses]; omega)

set_option maxRecDepth 100000 in
set_option maxHeartbeats 1600000 in
theorem usesObs_any (s : Stm) (A3 A4 A5 : Option Addr) (c3 c4 c5 : Nat) (w : World) (hk : s.kind = 4) :
    Calls Tryz.prog 60 #[.agg #[.int .i64 s.kind, .int .i64 s.var, .int .i64 s.ex, .slice A3 s.nc c3, .slice A4 s.nt c4, .slice A5 s.ne c5, .int .i64 s.times, .int .i64 s.proc], .bool false, .bool true, .bool false, .bool false, .bool false, .bool false] w (Yn (Uses s false true false false false false) w) := by
  have hP := Box.new w 77 #[.int .i64 s.kind, .int .i64 s.var, .int .i64 s.ex, .slice A3 s.nc c3, .slice A4 s.nt c4, .slice A5 s.ne c5, .int .i64 s.times, .int .i64 s.proc]
  obtain ⟨q0, q1, q2, q3, q4, q5, q6, q7, qf⟩ := hP.eight
  have e8 : (s.kind == 3) = false := by rw [hk]; rfl
  have HK := Lib.hid hk
  clear hk
  go_enter Tryz.func60, Tryz.ntmps60
  go_wp2_with fail
  all_goals go_ret
  all_goals refine ⟨_, rfl, Lib.hid ?_, (Below.refl _ w).alloc (Nat.le_refl _) _⟩
  all_goals have hk := HK.out
  all_goals clear q0 q1 q2 q3 q4 q5 q6 q7 qf hP HK
  all_goals first
    | (simp [Uses, *]; done)
    | (simp [Uses, *]; omega)
    | (simp_all [Uses]; done)
    | (simp_all [Uses]; omega)

set_option maxRecDepth 100000 in
set_option maxHeartbeats 1600000 in
theorem usesIf_any (s : Stm) (A3 A4 A5 : Option Addr) (c3 c4 c5 : Nat) (w : World) (hk : s.kind = 5) :
    Calls Tryz.prog 60 #[.agg #[.int .i64 s.kind, .int .i64 s.var, .int .i64 s.ex, .slice A3 s.nc c3, .slice A4 s.nt c4, .slice A5 s.ne c5, .int .i64 s.times, .int .i64 s.proc], .bool false, .bool true, .bool false, .bool false, .bool true, .bool true] w (Yn (Uses s false true false false true true) w) := by
  have hP := Box.new w 77 #[.int .i64 s.kind, .int .i64 s.var, .int .i64 s.ex, .slice A3 s.nc c3, .slice A4 s.nt c4, .slice A5 s.ne c5, .int .i64 s.times, .int .i64 s.proc]
  obtain ⟨q0, q1, q2, q3, q4, q5, q6, q7, qf⟩ := hP.eight
  have e8 : (s.kind == 3) = false := by rw [hk]; rfl
  have HK := Lib.hid hk
  clear hk
  go_enter Tryz.func60, Tryz.ntmps60
  go_wp2_with fail
  all_goals go_ret
  all_goals refine ⟨_, rfl, Lib.hid ?_, (Below.refl _ w).alloc (Nat.le_refl _) _⟩
  all_goals have hk := HK.out
  all_goals clear q0 q1 q2 q3 q4 q5 q6 q7 qf hP HK
  all_goals first
    | (simp [Uses, *]; done)
    | (simp [Uses, *]; omega)
    | (simp_all [Uses]; done)
    | (simp_all [Uses]; omega)

set_option maxRecDepth 100000 in
set_option maxHeartbeats 1600000 in
theorem usesRep_any (s : Stm) (A3 A4 A5 : Option Addr) (c3 c4 c5 : Nat) (w : World) (hk : s.kind = 6) :
    Calls Tryz.prog 60 #[.agg #[.int .i64 s.kind, .int .i64 s.var, .int .i64 s.ex, .slice A3 s.nc c3, .slice A4 s.nt c4, .slice A5 s.ne c5, .int .i64 s.times, .int .i64 s.proc], .bool false, .bool false, .bool true, .bool false, .bool true, .bool false] w (Yn (Uses s false false true false true false) w) := by
  have hP := Box.new w 77 #[.int .i64 s.kind, .int .i64 s.var, .int .i64 s.ex, .slice A3 s.nc c3, .slice A4 s.nt c4, .slice A5 s.ne c5, .int .i64 s.times, .int .i64 s.proc]
  obtain ⟨q0, q1, q2, q3, q4, q5, q6, q7, qf⟩ := hP.eight
  have e8 : (s.kind == 3) = false := by rw [hk]; rfl
  have HK := Lib.hid hk
  clear hk
  go_enter Tryz.func60, Tryz.ntmps60
  go_wp2_with fail
  all_goals go_ret
  all_goals refine ⟨_, rfl, Lib.hid ?_, (Below.refl _ w).alloc (Nat.le_refl _) _⟩
  all_goals have hk := HK.out
  all_goals clear q0 q1 q2 q3 q4 q5 q6 q7 qf hP HK
  all_goals first
    | (simp [Uses, *]; done)
    | (simp [Uses, *]; omega)
    | (simp_all [Uses]; done)
    | (simp_all [Uses]; omega)

set_option maxRecDepth 100000 in
set_option maxHeartbeats 1600000 in
theorem usesWhile_any (s : Stm) (A3 A4 A5 : Option Addr) (c3 c4 c5 : Nat) (w : World) (hk : s.kind = 7) :
    Calls Tryz.prog 60 #[.agg #[.int .i64 s.kind, .int .i64 s.var, .int .i64 s.ex, .slice A3 s.nc c3, .slice A4 s.nt c4, .slice A5 s.ne c5, .int .i64 s.times, .int .i64 s.proc], .bool false, .bool true, .bool true, .bool false, .bool true, .bool false] w (Yn (Uses s false true true false true false) w) := by
  have hP := Box.new w 77 #[.int .i64 s.kind, .int .i64 s.var, .int .i64 s.ex, .slice A3 s.nc c3, .slice A4 s.nt c4, .slice A5 s.ne c5, .int .i64 s.times, .int .i64 s.proc]
  obtain ⟨q0, q1, q2, q3, q4, q5, q6, q7, qf⟩ := hP.eight
  have e8 : (s.kind == 3) = false := by rw [hk]; rfl
  have HK := Lib.hid hk
  clear hk
  go_enter Tryz.func60, Tryz.ntmps60
  go_wp2_with fail
  all_goals go_ret
  all_goals refine ⟨_, rfl, Lib.hid ?_, (Below.refl _ w).alloc (Nat.le_refl _) _⟩
  all_goals have hk := HK.out
  all_goals clear q0 q1 q2 q3 q4 q5 q6 q7 qf hP HK
  all_goals first
    | (simp [Uses, *]; done)
    | (simp [Uses, *]; omega)
    | (simp_all [Uses]; done)
    | (simp_all [Uses]; omega)

set_option maxRecDepth 100000 in
set_option maxHeartbeats 1600000 in
theorem usesCall_any (s : Stm) (A3 A4 A5 : Option Addr) (c3 c4 c5 : Nat) (w : World) (hk : s.kind = 8) :
    Calls Tryz.prog 60 #[.agg #[.int .i64 s.kind, .int .i64 s.var, .int .i64 s.ex, .slice A3 s.nc c3, .slice A4 s.nt c4, .slice A5 s.ne c5, .int .i64 s.times, .int .i64 s.proc], .bool false, .bool false, .bool false, .bool true, .bool false, .bool false] w (Yn (Uses s false false false true false false) w) := by
  have hP := Box.new w 77 #[.int .i64 s.kind, .int .i64 s.var, .int .i64 s.ex, .slice A3 s.nc c3, .slice A4 s.nt c4, .slice A5 s.ne c5, .int .i64 s.times, .int .i64 s.proc]
  obtain ⟨q0, q1, q2, q3, q4, q5, q6, q7, qf⟩ := hP.eight
  have e8 : (s.kind == 3) = false := by rw [hk]; rfl
  have HK := Lib.hid hk
  clear hk
  go_enter Tryz.func60, Tryz.ntmps60
  go_wp2_with fail
  all_goals go_ret
  all_goals refine ⟨_, rfl, Lib.hid ?_, (Below.refl _ w).alloc (Nat.le_refl _) _⟩
  all_goals have hk := HK.out
  all_goals clear q0 q1 q2 q3 q4 q5 q6 q7 qf hP HK
  all_goals first
    | (simp [Uses, *]; done)
    | (simp [Uses, *]; omega)
    | (simp_all [Uses]; done)
    | (simp_all [Uses]; omega)

end Go.Proofs.YtoaiejodbmkbjaaGreatDoor
