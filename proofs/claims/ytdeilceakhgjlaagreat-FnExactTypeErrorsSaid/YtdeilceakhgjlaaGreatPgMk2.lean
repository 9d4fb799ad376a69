/-
  Marking: procedures, statements and whole programs. (Written by gen_pgmk.py.)
-/
import Derived.Test.YtdeilceakhgjlaaGreatPgMk1
namespace Go.Proofs.YtdeilceakhgjlaaGreat
open Go.RowKit Num

set_option maxRecDepth 100000 in
set_option maxHeartbeats 3200000 in
theorem markProcS_any (lo hi : Nat) (A0 : Option Addr) (n cap : Nat) (pl : Nat → Nat) (k0 : Int) (w : World) (hn : n ≤ 1048576) (hpl : ∀ j, j < n → pl j ≤ 1048576) (hk : 0 ≤ k0 ∧ k0 ≤ 10000000000000000) (h : ShP lo hi w A0 n pl) :
    Calls Tryz.prog 74 #[.slice A0 n cap, .int .i64 k0] w fun e w' => ∃ k1, e = .returned (.int .i64 k1) ∧ (k0 ≤ k1 ∧ k1 ≤ k0 + 1048577 * (n : Int)) ∧ Marks lo hi w w' := by
  have H := Lib.hid h
  have HPL := Lib.hid hpl
  clear h hpl
  go_enter Tryz.func74, Tryz.ntmps74
  go_wp2_with fail
  go_loopg [1, 5] n (fun q kv iv wr => ∃ (k : Nat) (x : Int), k + q = n ∧ iv = .int .i64 (k : Nat) ∧ kv = .int .i64 x ∧ Hid (k0 ≤ x ∧ x ≤ k0 + 1048577 * (k : Int)) ∧ Marks lo hi w wr)
  case atStart => exact ⟨0, k0, by omega, rfl, rfl, Lib.hid (by omega), Marks.refl _ _ _⟩
  case round =>
    obtain ⟨k, x, hkq, rfl, rfl, hx, hmk⟩ := hrel
    by_cases hk0 : k < n
    · have hn0 : 0 < n := by omega
      have hwr := H.out.marks hmk
      obtain ⟨b, off, rfl, hf, hc⟩ := hwr hn0
      obtain ⟨⟨s0, r0⟩, A1, c1, r1, g1⟩ := hc k hk0
      have hf0 := hf.1
      have hx1 : 0 ≤ x ∧ x ≤ 20000000000000000 := by have := hx.out; omega
      have w0 : IntKind.i64.wrap (x + 1) = x + 1 := IntWalk.i64_in _ (by omega)
      have hpk := HPL.out k hk0
      obtain ⟨y, hy⟩ : ∃ y, y = x + 1 + (pl k : Int) := ⟨_, rfl⟩
      have HY := Lib.hid (show x ≤ y ∧ y ≤ x + 1048577 by omega)
      have CI : Hid (∀ W, Marks lo hi wr W → _) := Lib.hid fun W m => markIntS_any lo hi A1 (pl k) c1 (x + 1) W hpk (by omega) (g1.marks m)
      rw [← hy] at CI
      have FX : Hid (∀ {W}, Marks lo hi wr W → IsS W b (off + k * 2) ∧ W.cell? ⟨b, off + k * 2 + 1, none⟩ = some (.slice A1 (pl k) c1) ∧ ∀ i, W.frozen? ⟨b, i, none⟩ = false) := Lib.hid fun m => ⟨IsS.marks ⟨s0, r0⟩ m, sl_marks r1 m, (hf.marks m).2.2⟩
      have R0 := Lib.hid r0
      clear hwr hc hf g1 hy hpk r0 r1
      go_wp2_with (first
        | (go_at_call 130
           refine (markText_any x _ (by omega)).mono ?_
           rintro e w5 ⟨⟨s5, rfl⟩, hb5⟩
           have hmk5 := (Marks.refl lo hi wr).step hb5
           obtain ⟨⟨z0, r0⟩, r1, fz⟩ := FX.out hmk5
           have f0 := fz (off + k * 2)
           have hmk6 := hmk5.putS R0.out hf0 s5)
        | (go_at_call 30
           refine (CI.out _ hmk6).mono ?_
           rintro e w7 ⟨rfl, hm7⟩
           have hm8 := hmk.trans (hmk6.trans hm7)))
      go_roundg (gk - 1)
      case rel => exact ⟨k + 1, y, by omega, by go_num, rfl, Lib.hid (by have := hx.out; have := HY.out; omega), hm8⟩
      case measure => omega
    · obtain rfl : k = n := by omega
      go_wp2_with fail
      go_ret
      exact ⟨x, rfl, hx.out, hmk⟩

set_option maxRecDepth 100000 in
set_option maxHeartbeats 6400000 in
theorem markStmtS_any (lo hi : Nat) (A0 : Option Addr) (n cap : Nat) (st : Nat → Stm) (k0 : Int) (w : World) (hn : n ≤ 1048576) (hst : ∀ j, j < n → (st j).small) (hk : 0 ≤ k0 ∧ k0 ≤ 10000000000000000) (h : ShS lo hi w A0 n st) :
    Calls Tryz.prog 73 #[.slice A0 n cap, .int .i64 k0] w fun e w' => ∃ k1, e = .returned (.int .i64 k1) ∧ (k0 ≤ k1 ∧ k1 ≤ k0 + 8388608 * (n : Int)) ∧ Marks lo hi w w' := by
  have H := Lib.hid h
  have HST := Lib.hid hst
  clear h hst
  go_enter Tryz.func73, Tryz.ntmps73
  go_wp2_with fail
  go_loopg [1, 5] n (fun q kv iv wr => ∃ (k : Nat) (x : Int), k + q = n ∧ iv = .int .i64 (k : Nat) ∧ kv = .int .i64 x ∧ Hid (k0 ≤ x ∧ x ≤ k0 + 8388608 * (k : Int)) ∧ Marks lo hi w wr)
  case atStart => exact ⟨0, k0, by omega, rfl, rfl, Lib.hid (by omega), Marks.refl _ _ _⟩
  case round =>
    obtain ⟨k, x, hkq, rfl, rfl, hx, hmk⟩ := hrel
    by_cases hk0 : k < n
    · have hn0 : 0 < n := by omega
      have hwr := H.out.marks hmk
      obtain ⟨b, off, rfl, hf, hc⟩ := hwr hn0
      obtain ⟨⟨z0, r0⟩, ⟨z1, r1⟩, ⟨z2, r2⟩, ⟨z6, r6⟩, ⟨z7, r7⟩, A3, c3, A4, c4, A5, c5, r3, r4, r5, g3, g4, g5⟩ := hc k hk0
      have hf0 := hf.1
      have hx1 : 0 ≤ x ∧ x ≤ 20000000000000000 := by have := hx.out; omega
      have w0 : IntKind.i64.wrap (x + 1) = x + 1 := IntWalk.i64_in _ (by omega)
      have w1 : IntKind.i64.wrap (x + 1 + 1) = x + 2 := by rw [IntWalk.i64_in _ (by omega)]; omega
      have w2 : IntKind.i64.wrap (x + 2 + 1) = x + 3 := by rw [IntWalk.i64_in _ (by omega)]; omega
      have hs1 := (HST.out k hk0).nc
      have hs2 := (HST.out k hk0).nt
      have hs3 := (HST.out k hk0).ne
      obtain ⟨y1, hy1⟩ : ∃ y, y = x + 3 + 2 * ((st k).nc : Int) := ⟨_, rfl⟩
      obtain ⟨y2, hy2⟩ : ∃ y, y = y1 + ((st k).nt : Int) := ⟨_, rfl⟩
      obtain ⟨y3, hy3⟩ : ∃ y, y = y2 + ((st k).ne : Int) := ⟨_, rfl⟩
      have hb1 : x ≤ y1 ∧ y1 ≤ x + 2097155 := by omega
      have hb2 : x ≤ y2 ∧ y2 ≤ x + 3145731 := by omega
      have hb3 : x ≤ y3 ∧ y3 ≤ x + 4194307 := by omega
      have w6 : IntKind.i64.wrap (y3 + 1) = y3 + 1 := IntWalk.i64_in _ (by omega)
      have w7 : IntKind.i64.wrap (y3 + 1 + 1) = y3 + 2 := by rw [IntWalk.i64_in _ (by omega)]; omega
      have C3 : Hid (∀ W, Marks lo hi wr W → _) := Lib.hid fun W m => markChoiceS_any lo hi A3 (st k).nc c3 (x + 3) W hs1 (by omega) (g3.marks m)
      have C4 : Hid (∀ W, Marks lo hi wr W → _) := Lib.hid fun W m => markIntS_any lo hi A4 (st k).nt c4 y1 W hs2 (by omega) (g4.marks m)
      have C5 : Hid (∀ W, Marks lo hi wr W → _) := Lib.hid fun W m => markIntS_any lo hi A5 (st k).ne c5 y2 W hs3 (by omega) (g5.marks m)
      rw [← hy1] at C3
      rw [← hy2] at C4
      rw [← hy3] at C5
      have HB3 := Lib.hid hb3
      have FX : Hid (∀ {W}, Marks lo hi wr W → W.cell? ⟨b, off + k * 8 + 4, none⟩ = some (.slice A4 (st k).nt c4) ∧ W.cell? ⟨b, off + k * 8 + 5, none⟩ = some (.slice A5 (st k).ne c5) ∧ IsI W b (off + k * 8 + 6) ∧ IsI W b (off + k * 8 + 7) ∧ ∀ i, W.frozen? ⟨b, i, none⟩ = false) := Lib.hid fun m => ⟨sl_marks r4 m, sl_marks r5 m, IsI.marks ⟨z6, r6⟩ m, IsI.marks ⟨z7, r7⟩ m, (hf.marks m).2.2⟩
      have R0 := Lib.hid r0
      have R1 := Lib.hid r1
      have R2 := Lib.hid r2
      have R6 := Lib.hid r6
      have R7 := Lib.hid r7
      have f0 := hf.2.2 (off + k * 8)
      have f1 := hf.2.2 (off + k * 8 + 1)
      have f2 := hf.2.2 (off + k * 8 + 2)
      have hmw := Lib.hid ((((Marks.refl lo hi wr).put R0.out hf0 x).put R1.out hf0 (x + 1)).put R2.out hf0 (x + 2))
      clear hwr hc hf g3 g4 g5 hy1 hy2 hy3 hs1 hs2 hs3 hb1 hb2 hb3 r4 r5 r6 r7
      go_wp2_with (first
        | (go_at_call 131
           refine (C3.out _ hmw.out).mono ?_
           rintro e w5 ⟨rfl, hm5⟩
           have hn5 := hmw.out.trans hm5
           obtain ⟨r4, r5, ⟨y6, r6⟩, ⟨y7, r7⟩, fz⟩ := FX.out hn5
           clear r0 r1 r2 r3 f0 f1 f2 hm5)
        | (go_at_call 30
           with_reducible refine (C4.out _ hn5).mono ?_
           rintro e w6 ⟨rfl, hm6⟩
           have hn6 := hn5.trans hm6
           clear r4 r5 r6 r7 fz hm6
           obtain ⟨r4, r5, ⟨y6, r6⟩, ⟨y7, r7⟩, fz⟩ := FX.out hn6)
        | (go_at_call 30
           with_reducible refine (C5.out _ hn6).mono ?_
           rintro e w7 ⟨rfl, hm7⟩
           have hn7 := hn6.trans hm7
           clear r4 r5 r6 r7 fz hm7
           obtain ⟨r4, r5, ⟨y6, r6⟩, ⟨y7, r7⟩, fz⟩ := FX.out hn7
           have f6 := fz (off + k * 8 + 6)
           have f7 := fz (off + k * 8 + 7)))
      go_roundg (gk - 1)
      case rel => exact ⟨k + 1, y3 + 2, by omega, by go_num, rfl, Lib.hid (by have := hx.out; have := HB3.out; omega), hmk.trans ((hn7.put R6.out hf0 _).put R7.out hf0 _)⟩
      case measure => omega
    · obtain rfl : k = n := by omega
      go_wp2_with fail
      go_ret
      exact ⟨x, rfl, hx.out, hmk⟩

set_option maxRecDepth 100000 in
set_option maxHeartbeats 3200000 in
theorem markProgram_any (lo hi : Nat) (P : Prg) (Av Ax As Ap Ab : Option Addr) (cv cx cs cp cb : Nat) (w : World) (hs : P.small) (hh : hi ≤ w.heap.size) (h : ShG lo hi w Av Ax As Ap Ab P) :
    Calls Tryz.prog 19 #[.agg #[.slice Av P.nv cv, .slice Ax P.nx cx, .slice As P.ns cs, .slice Ap P.np cp, .slice Ab P.nb cb, .int .i64 P.fuel], .int .i64 1] w fun e w' => ∃ k1, e = .returned (.int .i64 k1) ∧ (0 ≤ k1 ∧ k1 ≤ 100000000000000) ∧ Marks lo hi w w' := by
  have hP := Box.new w 38 #[.slice Av P.nv cv, .slice Ax P.nx cx, .slice As P.ns cs, .slice Ap P.np cp, .slice Ab P.nb cb, .int .i64 P.fuel]
  have hB := (Below.refl w.heap.size w).alloc (Nat.le_refl _) (.cells #[.slice Av P.nv cv, .slice Ax P.nx cx, .slice As P.ns cs, .slice Ap P.np cp, .slice Ab P.nb cb, .int .i64 P.fuel] 38)
  obtain ⟨q0, q1, q2, q3, q4, q5, qf⟩ := hP.six
  have HSM := Lib.hid hs
  have hm0 := (Marks.refl lo hi w).step hB
  have H := Lib.hid h
  have hnv := hs.nv
  have hnx := hs.nx
  have hns := hs.ns
  have hnp := hs.np
  have hnb := hs.nb
  clear h hB hs
  obtain ⟨y1, hy1⟩ : ∃ y, y = 1 + 2 * (P.nv : Int) := ⟨_, rfl⟩
  obtain ⟨y2, hy2⟩ : ∃ y, y = y1 + 4 * (P.nx : Int) := ⟨_, rfl⟩
  have hb1 : 0 ≤ y1 ∧ y1 ≤ 10000000 := by omega
  have hb2 : 0 ≤ y2 ∧ y2 ≤ 100000000 := by omega
  have C1 : Hid (∀ W, Marks lo hi w W → _) := Lib.hid fun W m => markVarS_any lo hi Av P.nv cv 1 W hnv (by omega) (H.out.marks m).v
  have C2 : Hid (∀ W, Marks lo hi w W → _) := Lib.hid fun W m => markExprS_any lo hi Ax P.nx cx y1 W hnx (by omega) (H.out.marks m).x
  have C3 : Hid (∀ W, Marks lo hi w W → _) := Lib.hid fun W m => markStmtS_any lo hi As P.ns cs P.st y2 W hns HSM.out.st (by omega) (H.out.marks m).s
  have C4 : Hid (∀ (y : Int) W, (0 ≤ y ∧ y ≤ 10000000000000) → Marks lo hi w W → _) := Lib.hid fun y W hy m => markProcS_any lo hi Ap P.np cp P.pl y W hnp HSM.out.pl (by omega) (H.out.marks m).p
  have C5 : Hid (∀ (y : Int) W, (0 ≤ y ∧ y ≤ 100000000000000) → Marks lo hi w W → _) := Lib.hid fun y W hy m => markIntS_any lo hi Ab P.nb cb y W hnb (by omega) (H.out.marks m).b
  rw [← hy1] at C1
  rw [← hy2] at C2
  clear hy1 hy2
  go_enter Tryz.func19, Tryz.ntmps19
  go_wp2_with (first
    | (go_at_call 71
       refine (C1.out _ hm0).mono ?_
       rintro e w1 ⟨rfl, hm⟩
       clear q0 q1 q2 q3 q4 q5 qf
       replace hP := hm.box hP (.inr hh)
       replace hm0 := hm0.trans hm
       clear hm
       obtain ⟨q0, q1, q2, q3, q4, q5, qf⟩ := hP.six)
    | (go_at_call 72
       refine (C2.out _ hm0).mono ?_
       rintro e w1 ⟨rfl, hm⟩
       clear q0 q1 q2 q3 q4 q5 qf
       replace hP := hm.box hP (.inr hh)
       replace hm0 := hm0.trans hm
       clear hm
       obtain ⟨q0, q1, q2, q3, q4, q5, qf⟩ := hP.six)
    | (go_at_call 73
       refine (C3.out _ hm0).mono ?_
       rintro e w1 ⟨k3, rfl, hk3, hm⟩
       clear q0 q1 q2 q3 q4 q5 qf
       replace hP := hm.box hP (.inr hh)
       replace hm0 := hm0.trans hm
       clear hm
       obtain ⟨q0, q1, q2, q3, q4, q5, qf⟩ := hP.six)
    | (go_at_call 74
       refine (C4.out _ _ (by omega) hm0).mono ?_
       rintro e w1 ⟨k4, rfl, hk4, hm⟩
       clear q0 q1 q2 q3 q4 q5 qf
       replace hP := hm.box hP (.inr hh)
       replace hm0 := hm0.trans hm
       clear hm
       obtain ⟨q0, q1, q2, q3, q4, q5, qf⟩ := hP.six)
    | (go_at_call 30
       refine (C5.out _ _ (by omega) hm0).mono ?_
       rintro e w1 ⟨rfl, hm⟩
       replace hm0 := hm0.trans hm
       clear hm))
  go_ret
  exact ⟨_, rfl, by omega, hm0⟩

end Go.Proofs.YtdeilceakhgjlaaGreat
