/-
  Statements and procedures: the program's and the model's tests of equality.
-/
import Derived.Test.YtoaiejodbmkbjaaGreatDoorPgCmp
namespace Go.Proofs.YtoaiejodbmkbjaaGreatDoor
open Go.RowKit Num

/-- Two statements are equal. -/
def StEq (s t : Stm) : Prop := s.kind = t.kind ∧ s.var = t.var ∧ s.ex = t.ex ∧ s.times = t.times ∧ s.proc = t.proc ∧ LsEq s.nc s.ch t.nc t.ch ∧ LsEq s.nt s.th t.nt t.th ∧ LsEq s.ne s.el t.ne t.el

set_option maxRecDepth 100000 in
set_option maxHeartbeats 6400000 in
theorem eqStmts_any (lo lo' : Nat) (s t : Stm) (A3 A4 A5 B3 B4 B5 : Option Addr) (c3 c4 c5 d3 d4 d5 : Nat) (w : World) (hs : s.small) (ht : t.small) (h3 : ChAt lo w A3 s.nc s.ch) (h4 : IntsAt lo w A4 s.nt s.th) (h5 : IntsAt lo w A5 s.ne s.el) (k3 : ChAt lo' w B3 t.nc t.ch) (k4 : IntsAt lo' w B4 t.nt t.th) (k5 : IntsAt lo' w B5 t.ne t.el) :
    Calls Tryz.prog 67 #[.agg #[.int .i64 s.kind, .int .i64 s.var, .int .i64 s.ex, .slice A3 s.nc c3, .slice A4 s.nt c4, .slice A5 s.ne c5, .int .i64 s.times, .int .i64 s.proc], .agg #[.int .i64 t.kind, .int .i64 t.var, .int .i64 t.ex, .slice B3 t.nc d3, .slice B4 t.nt d4, .slice B5 t.ne d5, .int .i64 t.times, .int .i64 t.proc]] w (Yn (StEq s t) w) := by
  have hP := (Box.new w 77 #[.int .i64 s.kind, .int .i64 s.var, .int .i64 s.ex, .slice A3 s.nc c3, .slice A4 s.nt c4, .slice A5 s.ne c5, .int .i64 s.times, .int .i64 s.proc]).alloc (.cells #[.int .i64 t.kind, .int .i64 t.var, .int .i64 t.ex, .slice B3 t.nc d3, .slice B4 t.nt d4, .slice B5 t.ne d5, .int .i64 t.times, .int .i64 t.proc] 77)
  have hQ := Box.new (w.alloc (.cells #[.int .i64 s.kind, .int .i64 s.var, .int .i64 s.ex, .slice A3 s.nc c3, .slice A4 s.nt c4, .slice A5 s.ne c5, .int .i64 s.times, .int .i64 s.proc] 77)) 77 #[.int .i64 t.kind, .int .i64 t.var, .int .i64 t.ex, .slice B3 t.nc d3, .slice B4 t.nt d4, .slice B5 t.ne d5, .int .i64 t.times, .int .i64 t.proc]
  rw [show (w.alloc (.cells #[.int .i64 s.kind, .int .i64 s.var, .int .i64 s.ex, .slice A3 s.nc c3, .slice A4 s.nt c4, .slice A5 s.ne c5, .int .i64 s.times, .int .i64 s.proc] 77)).heap.size = w.heap.size + 1 by simp] at hQ
  have hB : Below w.heap.size w ((w.alloc (.cells #[.int .i64 s.kind, .int .i64 s.var, .int .i64 s.ex, .slice A3 s.nc c3, .slice A4 s.nt c4, .slice A5 s.ne c5, .int .i64 s.times, .int .i64 s.proc] 77)).alloc (.cells #[.int .i64 t.kind, .int .i64 t.var, .int .i64 t.ex, .slice B3 t.nc d3, .slice B4 t.nt d4, .slice B5 t.ne d5, .int .i64 t.times, .int .i64 t.proc] 77)) := ((Below.refl _ w).alloc (Nat.le_refl _) _).alloc (by simp) _
  obtain ⟨q0, q1, q2, q3, q4, q5, q6, q7, qf⟩ := hP.eight
  obtain ⟨u0, u1, u2, u3, u4, u5, u6, u7, uf⟩ := hQ.eight
  have C3 : Hid (∀ W, Below w.heap.size w W → _) := Lib.hid fun W hW => eqChoices_any lo lo' A3 B3 s.nc t.nc c3 d3 s.ch t.ch W hs.nc ht.nc (h3.below hW (Nat.le_refl _)) (k3.below hW (Nat.le_refl _))
  have C4 : Hid (∀ W, Below w.heap.size w W → _) := Lib.hid fun W hW => eqInts_any lo lo' A4 B4 s.nt t.nt c4 d4 s.th t.th W hs.nt ht.nt (h4.below hW (Nat.le_refl _)) (k4.below hW (Nat.le_refl _))
  have C5 : Hid (∀ W, Below w.heap.size w W → _) := Lib.hid fun W hW => eqInts_any lo lo' A5 B5 s.ne t.ne c5 d5 s.el t.el W hs.ne ht.ne (h5.below hW (Nat.le_refl _)) (k5.below hW (Nat.le_refl _))
  clear h3 h4 h5 k3 k4 k5 hs ht
  cases e0 : (s.kind == t.kind) with
  | false =>
    go_enter Tryz.func67, Tryz.ntmps67
    go_wp2_with fail
    go_ret
    exact Yn.no (fun h => by rw [h.1] at e0; simp at e0) hB
  | true =>
    cases e1 : (s.var == t.var) with
    | false =>
      go_enter Tryz.func67, Tryz.ntmps67
      go_wp2_with fail
      go_ret
      exact Yn.no (fun h => by rw [h.2.1] at e1; simp at e1) hB
    | true =>
      cases e2 : (s.ex == t.ex) with
      | false =>
        go_enter Tryz.func67, Tryz.ntmps67
        go_wp2_with fail
        go_ret
        exact Yn.no (fun h => by rw [h.2.2.1] at e2; simp at e2) hB
      | true =>
        cases e3 : (s.times == t.times) with
        | false =>
          go_enter Tryz.func67, Tryz.ntmps67
          go_wp2_with fail
          go_ret
          exact Yn.no (fun h => by rw [h.2.2.2.1] at e3; simp at e3) hB
        | true =>
          cases e4 : (s.proc == t.proc) with
          | false =>
            go_enter Tryz.func67, Tryz.ntmps67
            go_wp2_with fail
            go_ret
            exact Yn.no (fun h => by rw [h.2.2.2.2.1] at e4; simp at e4) hB
          | true =>
            have E0 := Lib.hid (eq_of_beq e0)
            have E1 := Lib.hid (eq_of_beq e1)
            have E2 := Lib.hid (eq_of_beq e2)
            have E3 := Lib.hid (eq_of_beq e3)
            have E4 := Lib.hid (eq_of_beq e4)
            go_enter Tryz.func67, Tryz.ntmps67
            go_wp2_with (go_at_call 82
                         with_reducible refine (C3.out _ hB).mono ?_
                         rintro e w1 ⟨r3, rfl, hr3, hb⟩
                         clear q0 q1 q2 q3 q4 q5 q6 q7 qf u0 u1 u2 u3 u4 u5 u6 u7 uf
                         replace hP := hP.below hb hP.lt
                         replace hQ := hQ.below hb hQ.lt
                         replace hB := hB.trans (hb.mono hB.size)
                         clear hb
                         obtain ⟨q0, q1, q2, q3, q4, q5, q6, q7, qf⟩ := hP.eight
                         obtain ⟨u0, u1, u2, u3, u4, u5, u6, u7, uf⟩ := hQ.eight)
            rotate_left
            · go_ret
              exact Yn.no (fun h => absurd (hr3.out.2 h.2.2.2.2.2.1) (by assumption)) hB
            have Fr3 : Hid (r3 = true) := Lib.hid (by assumption)
            clear e0 e1 e2 e3 e4
            go_wp2_with (go_at_call 83
                         with_reducible refine (C4.out _ hB).mono ?_
                         rintro e w1 ⟨r4, rfl, hr4, hb⟩
                         clear q0 q1 q2 q3 q4 q5 q6 q7 qf u0 u1 u2 u3 u4 u5 u6 u7 uf
                         replace hP := hP.below hb hP.lt
                         replace hQ := hQ.below hb hQ.lt
                         replace hB := hB.trans (hb.mono hB.size)
                         clear hb
                         obtain ⟨q0, q1, q2, q3, q4, q5, q6, q7, qf⟩ := hP.eight
                         obtain ⟨u0, u1, u2, u3, u4, u5, u6, u7, uf⟩ := hQ.eight)
            rotate_left
            · go_ret
              exact Yn.no (fun h => absurd (hr4.out.2 h.2.2.2.2.2.2.1) (by assumption)) hB
            have Fr4 : Hid (r4 = true) := Lib.hid (by assumption)
            go_wp2_with (go_at_call 83
                         with_reducible refine (C5.out _ hB).mono ?_
                         rintro e w1 ⟨r5, rfl, hr5, hb⟩
                         clear q0 q1 q2 q3 q4 q5 q6 q7 qf u0 u1 u2 u3 u4 u5 u6 u7 uf
                         replace hB := hB.trans (hb.mono hB.size)
                         clear hb)
            go_ret
            exact ⟨r5, rfl, Lib.hid ⟨fun h => ⟨E0.out, E1.out, E2.out, E3.out, E4.out, hr3.out.1 Fr3.out, hr4.out.1 Fr4.out, hr5.out.1 h⟩, fun h => hr5.out.2 h.2.2.2.2.2.2.2⟩, hB⟩

end Go.Proofs.YtoaiejodbmkbjaaGreatDoor
