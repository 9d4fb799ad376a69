/-
  CallGraph: the model's and the program's. (Written by gen_pgcg9.py.)
-/
import Derived.Test.YtdeilceakhgjlaaPgCg8
namespace Go.Proofs.Ytdeilceakhgjlaa
open Go.RowKit Num

open Classical in
/-- The answer. -/
noncomputable def cgN (P : Prg) : Nat := if PgOk P then P.np + 1 else 0
open Classical in
noncomputable def cgB (P : Prg) : Bool := if PgOk P then true else false
def cgL (P : Prg) : Nat → List Int := fun j => ups (gr P j) 3
theorem cgN_le (P : Prg) : cgN P ≤ 1000 := by
  unfold cgN
  split
  · next h => have := h.2.2.1.2; omega
  · exact Nat.zero_le _
theorem cgL_le (P : Prg) (j : Nat) : (cgL P j).length ≤ 1000 := by
  have := ups_le (gr P j) 3
  show (ups (gr P j) 3).length ≤ 1000
  omega
theorem cg_no {P : Prg} (h : ¬ PgOk P) : cgN P = 0 ∧ cgB P = false := ⟨if_neg h, if_neg h⟩
theorem cg_yes {P : Prg} (h : PgOk P) : cgN P = P.np + 1 ∧ cgB P = true := ⟨if_pos h, if_pos h⟩

set_option maxRecDepth 100000 in
set_option maxHeartbeats 12800000 in
theorem implCG_any1 (lo : Nat) (P : Prg) (Av Ax As Ap Ab : Option Addr) (cv cx cs cp cb : Nat) (w : World) (hs : P.small) (h : PgAt lo w Av Ax As Ap Ab P) (F0 : ¬ PgOk P) :
    Calls Try.prog 13 #[.agg #[.slice Av P.nv cv, .slice Ax P.nx cx, .slice As P.ns cs, .slice Ap P.np cp, .slice Ab P.nb cb, .int .i64 P.fuel]] w fun e w' => e = .returned (.tuple #[.slice none 0 0, .bool false]) ∧ Below w.heap.size w w' := by
  have hP := Box.new w 37 #[.slice Av P.nv cv, .slice Ax P.nx cx, .slice As P.ns cs, .slice Ap P.np cp, .slice Ab P.nb cb, .int .i64 P.fuel]
  have hB := (Below.refl w.heap.size w).alloc (Nat.le_refl _) (.cells #[.slice Av P.nv cv, .slice Ax P.nx cx, .slice As P.ns cs, .slice Ap P.np cp, .slice Ab P.nb cb, .int .i64 P.fuel] 37)
  obtain ⟨q0, q1, q2, q3, q4, q5, qf⟩ := hP.six
  have H := Lib.hid h
  have HSM := Lib.hid hs
  have F := Lib.hid F0
  clear F0 h hs
  go_enter Try.func13, Try.ntmps13
  go_wp2_with (first
      | (go_at_call 34
         refine (implValid_any lo P Av Ax As Ap Ab cv cx cs cp cb _ HSM.out (H.out.below hB (Nat.le_refl _))).mono ?_
         rintro e w1 ⟨r, rfl, hr, hb⟩
         obtain rfl : r = false := by cases r with | false => rfl | true => exact absurd (hr.out.1 rfl) F.out
         clear q0 q1 q2 q3 q4 q5 qf hr
         replace hP := hP.below hb hP.lt
         replace hB := hB.trans (hb.mono hB.size)
         clear hb
         obtain ⟨q0, q1, q2, q3, q4, q5, qf⟩ := hP.six))
  go_ret2
  exact ⟨rfl, hB⟩

set_option maxRecDepth 100000 in
set_option maxHeartbeats 12800000 in
theorem implCG_any2 (lo : Nat) (P : Prg) (Av Ax As Ap Ab : Option Addr) (cv cx cs cp cb : Nat) (w : World) (hs : P.small) (h : PgAt lo w Av Ax As Ap Ab P) (F0 : PgOk P) :
    Calls Try.prog 13 #[.agg #[.slice Av P.nv cv, .slice Ax P.nx cx, .slice As P.ns cs, .slice Ap P.np cp, .slice Ab P.nb cb, .int .i64 P.fuel]] w fun e w' => ∃ v, e = .returned (.tuple #[v, .bool true]) ∧ GrAt w.heap.size w' v P ∧ Below w.heap.size w w' := by
  have hP := Box.new w 37 #[.slice Av P.nv cv, .slice Ax P.nx cx, .slice As P.ns cs, .slice Ap P.np cp, .slice Ab P.nb cb, .int .i64 P.fuel]
  have hB := (Below.refl w.heap.size w).alloc (Nat.le_refl _) (.cells #[.slice Av P.nv cv, .slice Ax P.nx cx, .slice As P.ns cs, .slice Ap P.np cp, .slice Ab P.nb cb, .int .i64 P.fuel] 37)
  obtain ⟨q0, q1, q2, q3, q4, q5, qf⟩ := hP.six
  have H := Lib.hid h
  have HSM := Lib.hid hs
  have F := Lib.hid F0
  have CG : Hid (∀ W, Below w.heap.size w W → _) := Lib.hid fun W (hw : Below w.heap.size w W) => implGraph_any lo P Av Ax As Ap Ab cv cx cs cp cb W HSM.out F.out (H.out.below hw (Nat.le_refl _))
  clear F0 h hs
  go_enter Try.func13, Try.ntmps13
  go_wp2_with (first
      | (go_at_call 34
         refine (implValid_any lo P Av Ax As Ap Ab cv cx cs cp cb _ HSM.out (H.out.below hB (Nat.le_refl _))).mono ?_
         rintro e w1 ⟨r, rfl, hr, hb⟩
         obtain rfl : r = true := hr.out.2 F.out
         clear q0 q1 q2 q3 q4 q5 qf hr
         replace hP := hP.below hb hP.lt
         replace hB := hB.trans (hb.mono hB.size)
         clear hb
         obtain ⟨q0, q1, q2, q3, q4, q5, qf⟩ := hP.six)
      | (go_at_call 44
         refine (CG.out _ hB).mono ?_
         rintro e w3 ⟨gv, rfl, hg, hb⟩
         have hz1 := hB.size))
  go_ret2
  exact ⟨_, rfl, hg.lowG hz1, hB.trans (hb.mono hB.size)⟩

theorem implCG_any (lo : Nat) (P : Prg) (Av Ax As Ap Ab : Option Addr) (cv cx cs cp cb : Nat) (w : World) (hs : P.small) (h : PgAt lo w Av Ax As Ap Ab P) :
    Calls Try.prog 13 #[.agg #[.slice Av P.nv cv, .slice Ax P.nx cx, .slice As P.ns cs, .slice Ap P.np cp, .slice Ab P.nb cb, .int .i64 P.fuel]] w fun e w' => ∃ v, e = .returned (.tuple #[v, .bool (cgB P)]) ∧ GrN w.heap.size w' v (cgN P) (cgL P) ∧ Below w.heap.size w w' := by
  by_cases F0 : PgOk P
  · rw [(cg_yes F0).1, (cg_yes F0).2]
    exact (implCG_any2 lo P Av Ax As Ap Ab cv cx cs cp cb w hs h F0).mono fun e w' ⟨v, he, hg, hb⟩ => ⟨v, he, hg.toN, hb⟩
  · rw [(cg_no F0).1, (cg_no F0).2]
    exact (implCG_any1 lo P Av Ax As Ap Ab cv cx cs cp cb w hs h F0).mono fun e w' ⟨he, hb⟩ => ⟨_, he, .inl ⟨rfl, rfl⟩, hb⟩
theorem specCG_any (lo : Nat) (P : Prg) (Av Ax As Ap Ab : Option Addr) (cv cx cs cp cb : Nat) (w : World) (hs : P.small) (hcv : P.nv ≤ cv) (hcp : P.np ≤ cp) (h : PgAt lo w Av Ax As Ap Ab P) :
    Calls Try.prog 12 #[.agg #[.slice Av P.nv cv, .slice Ax P.nx cx, .slice As P.ns cs, .slice Ap P.np cp, .slice Ab P.nb cb, .int .i64 P.fuel]] w fun e w' => ∃ v, e = .returned (.tuple #[v, .bool (cgB P)]) ∧ GrN w.heap.size w' v (cgN P) (cgL P) ∧ Below w.heap.size w w' := by
  by_cases F0 : PgOk P
  · rw [(cg_yes F0).1, (cg_yes F0).2]
    exact (specGraph_any lo P Av Ax As Ap Ab cv cx cs cp cb w hs hcv hcp F0 h).mono fun e w' ⟨v, he, hg, hb⟩ => ⟨v, he, hg.toN, hb⟩
  · rw [(cg_no F0).1, (cg_no F0).2]
    exact (specGraph_no lo P Av Ax As Ap Ab cv cx cs cp cb w hs hcv hcp F0 h).mono fun e w' ⟨he, hb⟩ => ⟨_, he, .inl ⟨rfl, rfl⟩, hb⟩

end Go.Proofs.Ytdeilceakhgjlaa
