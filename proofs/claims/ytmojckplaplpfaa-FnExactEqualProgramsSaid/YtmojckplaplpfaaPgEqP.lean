/-
  Programs: the program's and the model's tests of equality.
-/
import Derived.Test.YtmojckplaplpfaaPgEf
namespace Go.Proofs.Ytmojckplaplpfaa
open Go.RowKit Num

/-- Two programs are equal. -/
def PgEq (P Q : Prg) : Prop := P.fuel = Q.fuel ∧ LsEq P.nv (fun j => (P.vn j, P.vz j)) Q.nv (fun j => (Q.vn j, Q.vz j)) ∧ LsEq P.nx (fun j => (P.ex j 0, P.ex j 1, P.ex j 2, P.ex j 3)) Q.nx (fun j => (Q.ex j 0, Q.ex j 1, Q.ex j 2, Q.ex j 3)) ∧
  StsEq P.ns P.st Q.ns Q.st ∧ PrsEq P.np P.pn P.pl P.pb Q.np Q.pn Q.pl Q.pb ∧ LsEq P.nb P.bd Q.nb Q.bd

set_option maxRecDepth 100000 in
set_option maxHeartbeats 6400000 in
theorem eqPg_any (lo lo' : Nat) (P Q : Prg) (Av Ax As Ap Ab Bv Bx Bs Bp Bb : Option Addr) (cv cx cs cp cb dv dx ds dp db : Nat) (w : World) (hs : P.small) (ht : Q.small) (h : PgAt lo w Av Ax As Ap Ab P) (k : PgAt lo' w Bv Bx Bs Bp Bb Q) :
    Calls Try.prog 31 #[.agg #[.slice Av P.nv cv, .slice Ax P.nx cx, .slice As P.ns cs, .slice Ap P.np cp, .slice Ab P.nb cb, .int .i64 P.fuel], .agg #[.slice Bv Q.nv dv, .slice Bx Q.nx dx, .slice Bs Q.ns ds, .slice Bp Q.np dp, .slice Bb Q.nb db, .int .i64 Q.fuel]] w (Yn (PgEq P Q) w) := by
  have hP := (Box.new w 36 #[.slice Av P.nv cv, .slice Ax P.nx cx, .slice As P.ns cs, .slice Ap P.np cp, .slice Ab P.nb cb, .int .i64 P.fuel]).alloc (.cells #[.slice Bv Q.nv dv, .slice Bx Q.nx dx, .slice Bs Q.ns ds, .slice Bp Q.np dp, .slice Bb Q.nb db, .int .i64 Q.fuel] 36)
  have hQ := Box.new (w.alloc (.cells #[.slice Av P.nv cv, .slice Ax P.nx cx, .slice As P.ns cs, .slice Ap P.np cp, .slice Ab P.nb cb, .int .i64 P.fuel] 36)) 36 #[.slice Bv Q.nv dv, .slice Bx Q.nx dx, .slice Bs Q.ns ds, .slice Bp Q.np dp, .slice Bb Q.nb db, .int .i64 Q.fuel]
  rw [show (w.alloc (.cells #[.slice Av P.nv cv, .slice Ax P.nx cx, .slice As P.ns cs, .slice Ap P.np cp, .slice Ab P.nb cb, .int .i64 P.fuel] 36)).heap.size = w.heap.size + 1 by simp] at hQ
  have hB : Below w.heap.size w ((w.alloc (.cells #[.slice Av P.nv cv, .slice Ax P.nx cx, .slice As P.ns cs, .slice Ap P.np cp, .slice Ab P.nb cb, .int .i64 P.fuel] 36)).alloc (.cells #[.slice Bv Q.nv dv, .slice Bx Q.nx dx, .slice Bs Q.ns ds, .slice Bp Q.np dp, .slice Bb Q.nb db, .int .i64 Q.fuel] 36)) := ((Below.refl _ w).alloc (Nat.le_refl _) _).alloc (by simp) _
  obtain ⟨q0, q1, q2, q3, q4, q5, qf⟩ := hP.six
  obtain ⟨u0, u1, u2, u3, u4, u5, uf⟩ := hQ.six
  have Cv : Hid (∀ W, Below w.heap.size w W → _) := Lib.hid fun W hW => eqVars_any lo lo' Av Bv P.nv Q.nv cv dv P.vn P.vz Q.vn Q.vz W hs.nv ht.nv (h.v.below hW (Nat.le_refl _)) (k.v.below hW (Nat.le_refl _))
  have Cx : Hid (∀ W, Below w.heap.size w W → _) := Lib.hid fun W hW => eqExprs_any lo lo' Ax Bx P.nx Q.nx cx dx P.ex Q.ex W hs.nx ht.nx (h.x.below hW (Nat.le_refl _)) (k.x.below hW (Nat.le_refl _))
  have Cs : Hid (∀ W, Below w.heap.size w W → _) := Lib.hid fun W hW => eqfStmts_any lo lo' As Bs P.ns Q.ns cs ds P.st Q.st W hs.ns ht.ns (h.s.below hW (Nat.le_refl _)) (k.s.below hW (Nat.le_refl _)) hs.st ht.st
  have Cp : Hid (∀ W, Below w.heap.size w W → _) := Lib.hid fun W hW => eqfProcs_any lo lo' Ap Bp P.np Q.np cp dp P.pn P.pl P.pb Q.pn Q.pl Q.pb W hs.np ht.np (h.p.below hW (Nat.le_refl _)) (k.p.below hW (Nat.le_refl _)) hs.pl ht.pl
  have Cb : Hid (∀ W, Below w.heap.size w W → _) := Lib.hid fun W hW => eqInts_any lo lo' Ab Bb P.nb Q.nb cb db P.bd Q.bd W hs.nb ht.nb (h.b.below hW (Nat.le_refl _)) (k.b.below hW (Nat.le_refl _))
  clear h k hs ht
  cases e0 : (P.fuel == Q.fuel) with
  | false =>
    go_enter Try.func31, Try.ntmps31
    go_wp2_with fail
    go_ret
    exact Yn.no (fun h => by rw [h.1] at e0; simp at e0) hB
  | true =>
    have E0 := Lib.hid (eq_of_beq e0)
    go_enter Try.func31, Try.ntmps31
    go_wp2_with (go_at_call 73
                 with_reducible refine (Cv.out _ hB).mono ?_
                 rintro e w1 ⟨rv, rfl, hrv, hb⟩
                 clear q0 q1 q2 q3 q4 q5 qf u0 u1 u2 u3 u4 u5 uf
                 replace hP := hP.below hb hP.lt
                 replace hQ := hQ.below hb hQ.lt
                 replace hB := hB.trans (hb.mono hB.size)
                 clear hb
                 obtain ⟨q0, q1, q2, q3, q4, q5, qf⟩ := hP.six
                 obtain ⟨u0, u1, u2, u3, u4, u5, uf⟩ := hQ.six)
    rotate_left
    · go_ret
      exact Yn.no (fun h => absurd (hrv.out.2 h.2.1) (by assumption)) hB
    have Fv : Hid (rv = true) := Lib.hid (by assumption)
    clear e0
    go_wp2_with (go_at_call 74
                 with_reducible refine (Cx.out _ hB).mono ?_
                 rintro e w1 ⟨rx, rfl, hrx, hb⟩
                 clear q0 q1 q2 q3 q4 q5 qf u0 u1 u2 u3 u4 u5 uf
                 replace hP := hP.below hb hP.lt
                 replace hQ := hQ.below hb hQ.lt
                 replace hB := hB.trans (hb.mono hB.size)
                 clear hb
                 obtain ⟨q0, q1, q2, q3, q4, q5, qf⟩ := hP.six
                 obtain ⟨u0, u1, u2, u3, u4, u5, uf⟩ := hQ.six)
    rotate_left
    · go_ret
      exact Yn.no (fun h => absurd (hrx.out.2 h.2.2.1) (by assumption)) hB
    have Fx : Hid (rx = true) := Lib.hid (by assumption)
    go_wp2_with (go_at_call 75
                 with_reducible refine (Cs.out _ hB).mono ?_
                 rintro e w1 ⟨rs, rfl, hrs, hb⟩
                 clear q0 q1 q2 q3 q4 q5 qf u0 u1 u2 u3 u4 u5 uf
                 replace hP := hP.below hb hP.lt
                 replace hQ := hQ.below hb hQ.lt
                 replace hB := hB.trans (hb.mono hB.size)
                 clear hb
                 obtain ⟨q0, q1, q2, q3, q4, q5, qf⟩ := hP.six
                 obtain ⟨u0, u1, u2, u3, u4, u5, uf⟩ := hQ.six)
    rotate_left
    · go_ret
      exact Yn.no (fun h => absurd (hrs.out.2 h.2.2.2.1) (by assumption)) hB
    have Fs : Hid (rs = true) := Lib.hid (by assumption)
    go_wp2_with (go_at_call 77
                 with_reducible refine (Cp.out _ hB).mono ?_
                 rintro e w1 ⟨rp, rfl, hrp, hb⟩
                 clear q0 q1 q2 q3 q4 q5 qf u0 u1 u2 u3 u4 u5 uf
                 replace hP := hP.below hb hP.lt
                 replace hQ := hQ.below hb hQ.lt
                 replace hB := hB.trans (hb.mono hB.size)
                 clear hb
                 obtain ⟨q0, q1, q2, q3, q4, q5, qf⟩ := hP.six
                 obtain ⟨u0, u1, u2, u3, u4, u5, uf⟩ := hQ.six)
    rotate_left
    · go_ret
      exact Yn.no (fun h => absurd (hrp.out.2 h.2.2.2.2.1) (by assumption)) hB
    have Fp : Hid (rp = true) := Lib.hid (by assumption)
    go_wp2_with (go_at_call 79
                 with_reducible refine (Cb.out _ hB).mono ?_
                 rintro e w1 ⟨rb, rfl, hrb, hb⟩
                 clear q0 q1 q2 q3 q4 q5 qf u0 u1 u2 u3 u4 u5 uf
                 replace hB := hB.trans (hb.mono hB.size)
                 clear hb)
    go_ret
    exact ⟨rb, rfl, Lib.hid ⟨fun h => ⟨E0.out, hrv.out.1 Fv.out, hrx.out.1 Fx.out, hrs.out.1 Fs.out, hrp.out.1 Fp.out, hrb.out.1 h⟩, fun h => hrb.out.2 h.2.2.2.2.2⟩, hB⟩

end Go.Proofs.Ytmojckplaplpfaa
