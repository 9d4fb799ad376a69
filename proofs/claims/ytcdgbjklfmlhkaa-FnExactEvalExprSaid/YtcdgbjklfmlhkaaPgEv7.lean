/-
  EvalExpr: the model's and the program's. (Written by gen_pgev5.py.)
-/
import Derived.Test.YtcdgbjklfmlhkaaPgEv6
namespace Go.Proofs.Ytcdgbjklfmlhkaa
open Go.RowKit Num

/-- The arguments are as they must be. -/
def EvOk (P : Prg) (m : Int) (n : Nat) (f : Nat → Int) : Prop := PgOk P ∧ (0 ≤ m ∧ m < (P.nx : Int)) ∧ ValsOk P n f
open Classical in
noncomputable def evU (P : Prg) (m : Int) (n : Nat) (f : Nat → Int) : Int := if EvOk P m n f then evs P.ex f (m.toNat + 1) m.toNat else 0
open Classical in
noncomputable def evB (P : Prg) (m : Int) (n : Nat) (f : Nat → Int) : Bool := if EvOk P m n f then true else false
theorem ev_no {P : Prg} {m : Int} {n : Nat} {f : Nat → Int} (h : ¬ EvOk P m n f) : evU P m n f = 0 ∧ evB P m n f = false := ⟨if_neg h, if_neg h⟩
theorem ev_yes {P : Prg} {m : Int} {n : Nat} {f : Nat → Int} (h : EvOk P m n f) : evU P m n f = evs P.ex f (m.toNat + 1) m.toNat ∧ evB P m n f = true := ⟨if_pos h, if_pos h⟩
theorem vals_20 {P : Prg} {n : Nat} {f : Nat → Int} (hv : VarsOk P) (h : ValsOk P n f) : ∀ j, j < P.nv → 0 ≤ f j ∧ f j ≤ 20 := fun j hj => by
  have h1 := h.2 j (by have := h.1; omega)
  have h2 := (hv.1 j hj).2.1
  omega

set_option maxRecDepth 100000 in
set_option maxHeartbeats 3200000 in
theorem specEvE_any1 (lo lo' : Nat) (P : Prg) (Av Ax As Ap Ab Aw : Option Addr) (cv cx cs cp cb cw n : Nat) (m : Int) (f : Nat → Int) (w : World) (hs : P.small) (hcv : P.nv ≤ cv) (hcp : P.np ≤ cp) (_hn : n ≤ 1048576) (h : PgAt lo w Av Ax As Ap Ab P) (hi : IntsAt lo' w Aw n f) (F0 : ¬ PgOk P) :
    Calls Try.prog 13 #[.agg #[.slice Av P.nv cv, .slice Ax P.nx cx, .slice As P.ns cs, .slice Ap P.np cp, .slice Ab P.nb cb, .int .i64 P.fuel], .int .i64 m, .slice Aw n cw] w fun e w' => e = .returned (.tuple #[.int .i64 0, .bool false]) ∧ Below w.heap.size w w' := by
  have hP := Box.new w 37 #[.slice Av P.nv cv, .slice Ax P.nx cx, .slice As P.ns cs, .slice Ap P.np cp, .slice Ab P.nb cb, .int .i64 P.fuel]
  have hB := (Below.refl w.heap.size w).alloc (Nat.le_refl _) (.cells #[.slice Av P.nv cv, .slice Ax P.nx cx, .slice As P.ns cs, .slice Ap P.np cp, .slice Ab P.nb cb, .int .i64 P.fuel] 37)
  obtain ⟨q0, q1, q2, q3, q4, q5, qf⟩ := hP.six
  have H := Lib.hid h
  have HI := Lib.hid hi
  have HSM := Lib.hid hs
  have wn : IntKind.i64.wrap ((P.nx : Int) - 1) = (P.nx : Int) - 1 := IntWalk.i64_in _ (by have := hs.nx; omega)
  have CN : Hid (∀ W, _) := Lib.hid fun W => in3_any m 0 ((P.nx : Int) - 1) W
  clear h hs hi
  have F := Lib.hid F0
  clear F0
  go_enter Try.func13, Try.ntmps13
  go_wp2_with (first
      | (go_at_call 46
         refine (specVal_any lo P Av Ax As Ap Ab cv cx cs cp cb _ HSM.out hcv hcp (H.out.below hB (Nat.le_refl _))).mono ?_
         rintro e w1 ⟨r, rfl, hr, hb⟩
         obtain rfl : r = false := by cases r with | false => rfl | true => exact absurd (hr.out.1 rfl) F.out
         clear q0 q1 q2 q3 q4 q5 qf hr
         replace hP := hP.below hb hP.lt
         replace hB := hB.trans (hb.mono hB.size)
         clear hb
         obtain ⟨q0, q1, q2, q3, q4, q5, qf⟩ := hP.six))
  go_ret2
  exact ⟨rfl, hB⟩

set_option maxRecDepth 100000 in
set_option maxHeartbeats 3200000 in
theorem specEvE_any2 (lo lo' : Nat) (P : Prg) (Av Ax As Ap Ab Aw : Option Addr) (cv cx cs cp cb cw n : Nat) (m : Int) (f : Nat → Int) (w : World) (hs : P.small) (hcv : P.nv ≤ cv) (hcp : P.np ≤ cp) (_hn : n ≤ 1048576) (h : PgAt lo w Av Ax As Ap Ab P) (hi : IntsAt lo' w Aw n f) (F0 : PgOk P) (G0 : ¬ (0 ≤ m ∧ m < (P.nx : Int))) :
    Calls Try.prog 13 #[.agg #[.slice Av P.nv cv, .slice Ax P.nx cx, .slice As P.ns cs, .slice Ap P.np cp, .slice Ab P.nb cb, .int .i64 P.fuel], .int .i64 m, .slice Aw n cw] w fun e w' => e = .returned (.tuple #[.int .i64 0, .bool false]) ∧ Below w.heap.size w w' := by
  have hP := Box.new w 37 #[.slice Av P.nv cv, .slice Ax P.nx cx, .slice As P.ns cs, .slice Ap P.np cp, .slice Ab P.nb cb, .int .i64 P.fuel]
  have hB := (Below.refl w.heap.size w).alloc (Nat.le_refl _) (.cells #[.slice Av P.nv cv, .slice Ax P.nx cx, .slice As P.ns cs, .slice Ap P.np cp, .slice Ab P.nb cb, .int .i64 P.fuel] 37)
  obtain ⟨q0, q1, q2, q3, q4, q5, qf⟩ := hP.six
  have H := Lib.hid h
  have HI := Lib.hid hi
  have HSM := Lib.hid hs
  have wn : IntKind.i64.wrap ((P.nx : Int) - 1) = (P.nx : Int) - 1 := IntWalk.i64_in _ (by have := hs.nx; omega)
  have CN : Hid (∀ W, _) := Lib.hid fun W => in3_any m 0 ((P.nx : Int) - 1) W
  clear h hs hi
  have F := Lib.hid F0
  have hd : decide ((0 : Int) ≤ m ∧ m ≤ (P.nx : Int) - 1) = false := decide_eq_false (by omega)
  rw [hd] at CN
  clear hd F0 G0
  go_enter Try.func13, Try.ntmps13
  go_wp2_with (first
      | (go_at_call 46
         refine (specVal_any lo P Av Ax As Ap Ab cv cx cs cp cb _ HSM.out hcv hcp (H.out.below hB (Nat.le_refl _))).mono ?_
         rintro e w1 ⟨r, rfl, hr, hb⟩
         obtain rfl : r = true := hr.out.2 F.out
         clear q0 q1 q2 q3 q4 q5 qf hr
         replace hP := hP.below hb hP.lt
         replace hB := hB.trans (hb.mono hB.size)
         clear hb
         obtain ⟨q0, q1, q2, q3, q4, q5, qf⟩ := hP.six)
      | (go_at_call 47
         refine (CN.out _).mono ?_
         rintro e w2 ⟨rfl, rfl⟩))
  go_ret2
  exact ⟨rfl, hB⟩

set_option maxRecDepth 100000 in
set_option maxHeartbeats 3200000 in
theorem specEvE_any3 (lo lo' : Nat) (P : Prg) (Av Ax As Ap Ab Aw : Option Addr) (cv cx cs cp cb cw n : Nat) (m : Int) (f : Nat → Int) (w : World) (hs : P.small) (hcv : P.nv ≤ cv) (hcp : P.np ≤ cp) (hn : n ≤ 1048576) (h : PgAt lo w Av Ax As Ap Ab P) (hi : IntsAt lo' w Aw n f) (F0 : PgOk P) (G0 : 0 ≤ m ∧ m < (P.nx : Int)) (A0 : ¬ ValsOk P n f) :
    Calls Try.prog 13 #[.agg #[.slice Av P.nv cv, .slice Ax P.nx cx, .slice As P.ns cs, .slice Ap P.np cp, .slice Ab P.nb cb, .int .i64 P.fuel], .int .i64 m, .slice Aw n cw] w fun e w' => e = .returned (.tuple #[.int .i64 0, .bool false]) ∧ Below w.heap.size w w' := by
  have hP := Box.new w 37 #[.slice Av P.nv cv, .slice Ax P.nx cx, .slice As P.ns cs, .slice Ap P.np cp, .slice Ab P.nb cb, .int .i64 P.fuel]
  have hB := (Below.refl w.heap.size w).alloc (Nat.le_refl _) (.cells #[.slice Av P.nv cv, .slice Ax P.nx cx, .slice As P.ns cs, .slice Ap P.np cp, .slice Ab P.nb cb, .int .i64 P.fuel] 37)
  obtain ⟨q0, q1, q2, q3, q4, q5, qf⟩ := hP.six
  have H := Lib.hid h
  have HI := Lib.hid hi
  have HSM := Lib.hid hs
  have wn : IntKind.i64.wrap ((P.nx : Int) - 1) = (P.nx : Int) - 1 := IntWalk.i64_in _ (by have := hs.nx; omega)
  have CN : Hid (∀ W, _) := Lib.hid fun W => in3_any m 0 ((P.nx : Int) - 1) W
  clear h hs hi
  have F := Lib.hid F0
  have HV := Lib.hid F0.1
  have FA := Lib.hid A0
  have hd : decide ((0 : Int) ≤ m ∧ m ≤ (P.nx : Int) - 1) = true := decide_eq_true (by omega)
  rw [hd] at CN
  clear hd F0 G0 A0
  go_enter Try.func13, Try.ntmps13
  go_wp2_with (first
      | (go_at_call 46
         refine (specVal_any lo P Av Ax As Ap Ab cv cx cs cp cb _ HSM.out hcv hcp (H.out.below hB (Nat.le_refl _))).mono ?_
         rintro e w1 ⟨r, rfl, hr, hb⟩
         obtain rfl : r = true := hr.out.2 F.out
         clear q0 q1 q2 q3 q4 q5 qf hr
         replace hP := hP.below hb hP.lt
         replace hB := hB.trans (hb.mono hB.size)
         clear hb
         obtain ⟨q0, q1, q2, q3, q4, q5, qf⟩ := hP.six)
      | (go_at_call 47
         refine (CN.out _).mono ?_
         rintro e w2 ⟨rfl, rfl⟩)
      | (go_at_call 48
         refine (specVals_any lo lo' P Av Ax As Ap Ab Aw cv cx cs cp cb cw n f _ HV.out hn (H.out.below hB (Nat.le_refl _)).v (HI.out.below hB (Nat.le_refl _))).mono ?_
         rintro e w3 ⟨r3, rfl, hr3, hb⟩
         obtain rfl : r3 = false := by cases r3 with | false => rfl | true => exact absurd (hr3.out.1 rfl) FA.out
         clear q0 q1 q2 q3 q4 q5 qf hr3
         replace hP := hP.below hb hP.lt
         replace hB := hB.trans (hb.mono hB.size)
         clear hb
         obtain ⟨q0, q1, q2, q3, q4, q5, qf⟩ := hP.six))
  go_ret2
  exact ⟨rfl, hB⟩

set_option maxRecDepth 100000 in
set_option maxHeartbeats 3200000 in
theorem specEvE_any4 (lo lo' : Nat) (P : Prg) (Av Ax As Ap Ab Aw : Option Addr) (cv cx cs cp cb cw n : Nat) (m : Int) (f : Nat → Int) (w : World) (hs : P.small) (hcv : P.nv ≤ cv) (hcp : P.np ≤ cp) (hn : n ≤ 1048576) (h : PgAt lo w Av Ax As Ap Ab P) (hi : IntsAt lo' w Aw n f) (F0 : PgOk P) (G0 : 0 ≤ m ∧ m < (P.nx : Int)) (A0 : ValsOk P n f) :
    Calls Try.prog 13 #[.agg #[.slice Av P.nv cv, .slice Ax P.nx cx, .slice As P.ns cs, .slice Ap P.np cp, .slice Ab P.nb cb, .int .i64 P.fuel], .int .i64 m, .slice Aw n cw] w fun e w' => e = .returned (.tuple #[.int .i64 (evs P.ex f (m.toNat + 1) m.toNat), .bool true]) ∧ Below w.heap.size w w' := by
  have hP := Box.new w 37 #[.slice Av P.nv cv, .slice Ax P.nx cx, .slice As P.ns cs, .slice Ap P.np cp, .slice Ab P.nb cb, .int .i64 P.fuel]
  have hB := (Below.refl w.heap.size w).alloc (Nat.le_refl _) (.cells #[.slice Av P.nv cv, .slice Ax P.nx cx, .slice As P.ns cs, .slice Ap P.np cp, .slice Ab P.nb cb, .int .i64 P.fuel] 37)
  obtain ⟨q0, q1, q2, q3, q4, q5, qf⟩ := hP.six
  have H := Lib.hid h
  have HI := Lib.hid hi
  have HSM := Lib.hid hs
  have wn : IntKind.i64.wrap ((P.nx : Int) - 1) = (P.nx : Int) - 1 := IntWalk.i64_in _ (by have := hs.nx; omega)
  have CN : Hid (∀ W, _) := Lib.hid fun W => in3_any m 0 ((P.nx : Int) - 1) W
  clear h hs hi
  have F := Lib.hid F0
  have HV := Lib.hid F0.1
  have FA := Lib.hid A0
  have hd : decide ((0 : Int) ≤ m ∧ m ≤ (P.nx : Int) - 1) = true := decide_eq_true (by omega)
  rw [hd] at CN
  clear hd
  obtain ⟨i, rfl⟩ : ∃ i : Nat, m = (i : Int) := ⟨m.toNat, by omega⟩
  rw [Int.toNat_natCast]
  have hi0 : i < P.nx := by omega
  have hnx := F0.2.1.1
  have hnv : P.nv ≤ 5 := F0.1.2.2
  have HF := Lib.hid (vals_20 F0.1 A0)
  obtain rfl : n = P.nv := A0.1
  have HX := Lib.hid F0.2.1.2
  clear G0 A0 F0
  go_enter Try.func13, Try.ntmps13
  go_wp2_with (first
      | (go_at_call 46
         refine (specVal_any lo P Av Ax As Ap Ab cv cx cs cp cb _ HSM.out hcv hcp (H.out.below hB (Nat.le_refl _))).mono ?_
         rintro e w1 ⟨r, rfl, hr, hb⟩
         obtain rfl : r = true := hr.out.2 F.out
         clear q0 q1 q2 q3 q4 q5 qf hr
         replace hP := hP.below hb hP.lt
         replace hB := hB.trans (hb.mono hB.size)
         clear hb
         obtain ⟨q0, q1, q2, q3, q4, q5, qf⟩ := hP.six)
      | (go_at_call 47
         refine (CN.out _).mono ?_
         rintro e w2 ⟨rfl, rfl⟩)
      | (go_at_call 48
         refine (specVals_any lo lo' P Av Ax As Ap Ab Aw cv cx cs cp cb cw P.nv f _ HV.out hn (H.out.below hB (Nat.le_refl _)).v (HI.out.below hB (Nat.le_refl _))).mono ?_
         rintro e w3 ⟨r3, rfl, hr3, hb⟩
         obtain rfl : r3 = true := hr3.out.2 FA.out
         clear q0 q1 q2 q3 q4 q5 qf hr3
         replace hP := hP.below hb hP.lt
         replace hB := hB.trans (hb.mono hB.size)
         clear hb
         obtain ⟨q0, q1, q2, q3, q4, q5, qf⟩ := hP.six)
      | (go_at_call 49
         refine (specEv_any lo lo' P Av Ax As Ap Ab Aw cv cx cs cp cb cw i f _ HX.out hnx hnv hi0 HF.out (H.out.below hB (Nat.le_refl _)).x (HI.out.below hB (Nat.le_refl _))).mono ?_
         rintro e w4 ⟨rfl, hb⟩
         replace hB := hB.trans (hb.mono hB.size)
         clear hb))
  go_ret2
  exact ⟨rfl, hB⟩

theorem specEvE_any (lo lo' : Nat) (P : Prg) (Av Ax As Ap Ab Aw : Option Addr) (cv cx cs cp cb cw n : Nat) (m : Int) (f : Nat → Int) (w : World) (hs : P.small) (hcv : P.nv ≤ cv) (hcp : P.np ≤ cp) (hn : n ≤ 1048576) (h : PgAt lo w Av Ax As Ap Ab P) (hi : IntsAt lo' w Aw n f) :
    Calls Try.prog 13 #[.agg #[.slice Av P.nv cv, .slice Ax P.nx cx, .slice As P.ns cs, .slice Ap P.np cp, .slice Ab P.nb cb, .int .i64 P.fuel], .int .i64 m, .slice Aw n cw] w fun e w' => e = .returned (.tuple #[.int .i64 (evU P m n f), .bool (evB P m n f)]) ∧ Below w.heap.size w w' := by
  by_cases F0 : PgOk P
  · by_cases G0 : 0 ≤ m ∧ m < (P.nx : Int)
    · by_cases A0 : ValsOk P n f
      · have hy := ev_yes (P := P) (m := m) (n := n) (f := f) ⟨F0, G0, A0⟩
        rw [hy.1, hy.2]
        exact specEvE_any4 lo lo' P Av Ax As Ap Ab Aw cv cx cs cp cb cw n m f w hs hcv hcp hn h hi F0 G0 A0
      · have hy := ev_no (P := P) (m := m) (n := n) (f := f) (fun h => A0 h.2.2)
        rw [hy.1, hy.2]
        exact specEvE_any3 lo lo' P Av Ax As Ap Ab Aw cv cx cs cp cb cw n m f w hs hcv hcp hn h hi F0 G0 A0
    · have hy := ev_no (P := P) (m := m) (n := n) (f := f) (fun h => G0 h.2.1)
      rw [hy.1, hy.2]
      exact specEvE_any2 lo lo' P Av Ax As Ap Ab Aw cv cx cs cp cb cw n m f w hs hcv hcp hn h hi F0 G0
  · have hy := ev_no (P := P) (m := m) (n := n) (f := f) (fun h => F0 h.1)
    rw [hy.1, hy.2]
    exact specEvE_any1 lo lo' P Av Ax As Ap Ab Aw cv cx cs cp cb cw n m f w hs hcv hcp hn h hi F0

theorem exL_left {lo : Nat} {w : World} {A : Option Addr} {n k : Nat} {F : Nat → Nat → Int} (h : ExL lo w A n F) (hk : k < n) : ExL lo w A (k + 1) F := ⟨fun h0 => by
  obtain ⟨b, off, rfl, h1, h2⟩ := h.1 (by omega)
  exact ⟨b, off, rfl, h1, fun j hj => h2 j (by omega)⟩, fun h0 => h.2 (by omega)⟩
theorem exsOk_left {F : Nat → Nat → Int} {m n k : Nat} (h : exsOk F m n = true) (hk : k < n) : exsOk F m (k + 1) = true := by
  by_cases hf : exsOk F m (k + 1) = true
  · exact hf
  · have := exsOk_up (show k + 1 ≤ n by omega) (by simpa using hf)
    rw [this] at h
    cases h

set_option maxRecDepth 100000 in
set_option maxHeartbeats 3200000 in
theorem implEvE_any1 (lo lo' : Nat) (P : Prg) (Av Ax As Ap Ab Aw : Option Addr) (cv cx cs cp cb cw n : Nat) (m : Int) (f : Nat → Int) (w : World) (hs : P.small) (_hcx : P.nx ≤ cx) (_hn : n ≤ 1048576) (h : PgAt lo w Av Ax As Ap Ab P) (hi : IntsAt lo' w Aw n f) (F0 : ¬ PgOk P) :
    Calls Try.prog 16 #[.agg #[.slice Av P.nv cv, .slice Ax P.nx cx, .slice As P.ns cs, .slice Ap P.np cp, .slice Ab P.nb cb, .int .i64 P.fuel], .int .i64 m, .slice Aw n cw] w fun e w' => e = .returned (.tuple #[.int .i64 0, .bool false]) ∧ Below w.heap.size w w' := by
  have hP := Box.new w 37 #[.slice Av P.nv cv, .slice Ax P.nx cx, .slice As P.ns cs, .slice Ap P.np cp, .slice Ab P.nb cb, .int .i64 P.fuel]
  have hB := (Below.refl w.heap.size w).alloc (Nat.le_refl _) (.cells #[.slice Av P.nv cv, .slice Ax P.nx cx, .slice As P.ns cs, .slice Ap P.np cp, .slice Ab P.nb cb, .int .i64 P.fuel] 37)
  obtain ⟨q0, q1, q2, q3, q4, q5, qf⟩ := hP.six
  have H := Lib.hid h
  have HI := Lib.hid hi
  have HSM := Lib.hid hs
  have CN : Hid (∀ W, _) := Lib.hid fun W => idx_any m (P.nx : Int) W
  clear h hs hi
  have F := Lib.hid F0
  clear F0
  go_enter Try.func16, Try.ntmps16
  go_wp2_with (first
      | (go_at_call 54
         refine (implValid_any lo P Av Ax As Ap Ab cv cx cs cp cb _ HSM.out (H.out.below hB (Nat.le_refl _))).mono ?_
         rintro e w1 ⟨r, rfl, hr, hb⟩
         obtain rfl : r = false := by cases r with | false => rfl | true => exact absurd (hr.out.1 rfl) F.out
         clear q0 q1 q2 q3 q4 q5 qf hr
         replace hP := hP.below hb hP.lt
         replace hB := hB.trans (hb.mono hB.size)
         clear hb
         obtain ⟨q0, q1, q2, q3, q4, q5, qf⟩ := hP.six))
  go_ret2
  exact ⟨rfl, hB⟩

set_option maxRecDepth 100000 in
set_option maxHeartbeats 3200000 in
theorem implEvE_any2 (lo lo' : Nat) (P : Prg) (Av Ax As Ap Ab Aw : Option Addr) (cv cx cs cp cb cw n : Nat) (m : Int) (f : Nat → Int) (w : World) (hs : P.small) (_hcx : P.nx ≤ cx) (_hn : n ≤ 1048576) (h : PgAt lo w Av Ax As Ap Ab P) (hi : IntsAt lo' w Aw n f) (F0 : PgOk P) (G0 : ¬ (0 ≤ m ∧ m < (P.nx : Int))) :
    Calls Try.prog 16 #[.agg #[.slice Av P.nv cv, .slice Ax P.nx cx, .slice As P.ns cs, .slice Ap P.np cp, .slice Ab P.nb cb, .int .i64 P.fuel], .int .i64 m, .slice Aw n cw] w fun e w' => e = .returned (.tuple #[.int .i64 0, .bool false]) ∧ Below w.heap.size w w' := by
  have hP := Box.new w 37 #[.slice Av P.nv cv, .slice Ax P.nx cx, .slice As P.ns cs, .slice Ap P.np cp, .slice Ab P.nb cb, .int .i64 P.fuel]
  have hB := (Below.refl w.heap.size w).alloc (Nat.le_refl _) (.cells #[.slice Av P.nv cv, .slice Ax P.nx cx, .slice As P.ns cs, .slice Ap P.np cp, .slice Ab P.nb cb, .int .i64 P.fuel] 37)
  obtain ⟨q0, q1, q2, q3, q4, q5, qf⟩ := hP.six
  have H := Lib.hid h
  have HI := Lib.hid hi
  have HSM := Lib.hid hs
  have CN : Hid (∀ W, _) := Lib.hid fun W => idx_any m (P.nx : Int) W
  clear h hs hi
  have F := Lib.hid F0
  have hd : decide ((0 : Int) ≤ m ∧ m < (P.nx : Int)) = false := decide_eq_false (by omega)
  rw [hd] at CN
  clear hd F0 G0
  go_enter Try.func16, Try.ntmps16
  go_wp2_with (first
      | (go_at_call 54
         refine (implValid_any lo P Av Ax As Ap Ab cv cx cs cp cb _ HSM.out (H.out.below hB (Nat.le_refl _))).mono ?_
         rintro e w1 ⟨r, rfl, hr, hb⟩
         obtain rfl : r = true := hr.out.2 F.out
         clear q0 q1 q2 q3 q4 q5 qf hr
         replace hP := hP.below hb hP.lt
         replace hB := hB.trans (hb.mono hB.size)
         clear hb
         obtain ⟨q0, q1, q2, q3, q4, q5, qf⟩ := hP.six)
      | (go_at_call 55
         refine (CN.out _).mono ?_
         rintro e w2 ⟨rfl, rfl⟩))
  go_ret2
  exact ⟨rfl, hB⟩

set_option maxRecDepth 100000 in
set_option maxHeartbeats 3200000 in
theorem implEvE_any3 (lo lo' : Nat) (P : Prg) (Av Ax As Ap Ab Aw : Option Addr) (cv cx cs cp cb cw n : Nat) (m : Int) (f : Nat → Int) (w : World) (hs : P.small) (_hcx : P.nx ≤ cx) (hn : n ≤ 1048576) (h : PgAt lo w Av Ax As Ap Ab P) (hi : IntsAt lo' w Aw n f) (F0 : PgOk P) (G0 : 0 ≤ m ∧ m < (P.nx : Int)) (A0 : ¬ ValsOk P n f) :
    Calls Try.prog 16 #[.agg #[.slice Av P.nv cv, .slice Ax P.nx cx, .slice As P.ns cs, .slice Ap P.np cp, .slice Ab P.nb cb, .int .i64 P.fuel], .int .i64 m, .slice Aw n cw] w fun e w' => e = .returned (.tuple #[.int .i64 0, .bool false]) ∧ Below w.heap.size w w' := by
  have hP := Box.new w 37 #[.slice Av P.nv cv, .slice Ax P.nx cx, .slice As P.ns cs, .slice Ap P.np cp, .slice Ab P.nb cb, .int .i64 P.fuel]
  have hB := (Below.refl w.heap.size w).alloc (Nat.le_refl _) (.cells #[.slice Av P.nv cv, .slice Ax P.nx cx, .slice As P.ns cs, .slice Ap P.np cp, .slice Ab P.nb cb, .int .i64 P.fuel] 37)
  obtain ⟨q0, q1, q2, q3, q4, q5, qf⟩ := hP.six
  have H := Lib.hid h
  have HI := Lib.hid hi
  have HSM := Lib.hid hs
  have CN : Hid (∀ W, _) := Lib.hid fun W => idx_any m (P.nx : Int) W
  clear h hs hi
  have F := Lib.hid F0
  have HV := Lib.hid F0.1
  have FA := Lib.hid A0
  have hd : decide ((0 : Int) ≤ m ∧ m < (P.nx : Int)) = true := decide_eq_true (by omega)
  rw [hd] at CN
  clear hd F0 G0 A0
  go_enter Try.func16, Try.ntmps16
  go_wp2_with (first
      | (go_at_call 54
         refine (implValid_any lo P Av Ax As Ap Ab cv cx cs cp cb _ HSM.out (H.out.below hB (Nat.le_refl _))).mono ?_
         rintro e w1 ⟨r, rfl, hr, hb⟩
         obtain rfl : r = true := hr.out.2 F.out
         clear q0 q1 q2 q3 q4 q5 qf hr
         replace hP := hP.below hb hP.lt
         replace hB := hB.trans (hb.mono hB.size)
         clear hb
         obtain ⟨q0, q1, q2, q3, q4, q5, qf⟩ := hP.six)
      | (go_at_call 55
         refine (CN.out _).mono ?_
         rintro e w2 ⟨rfl, rfl⟩)
      | (go_at_call 56
         refine (implVals_any lo lo' P Av Aw cv cw n f _ HV.out hn (H.out.below hB (Nat.le_refl _)).v (HI.out.below hB (Nat.le_refl _))).mono ?_
         rintro e w3 ⟨r3, rfl, hr3, hb⟩
         obtain rfl : r3 = false := by cases r3 with | false => rfl | true => exact absurd (hr3.out.1 rfl) FA.out
         clear q0 q1 q2 q3 q4 q5 qf hr3
         replace hP := hP.below hb hP.lt
         replace hB := hB.trans (hb.mono hB.size)
         clear hb
         obtain ⟨q0, q1, q2, q3, q4, q5, qf⟩ := hP.six))
  go_ret2
  exact ⟨rfl, hB⟩

set_option maxRecDepth 100000 in
set_option maxHeartbeats 3200000 in
theorem implEvE_any4 (lo lo' : Nat) (P : Prg) (Av Ax As Ap Ab Aw : Option Addr) (cv cx cs cp cb cw n : Nat) (m : Int) (f : Nat → Int) (w : World) (hs : P.small) (hcx : P.nx ≤ cx) (hn : n ≤ 1048576) (h : PgAt lo w Av Ax As Ap Ab P) (hi : IntsAt lo' w Aw n f) (F0 : PgOk P) (G0 : 0 ≤ m ∧ m < (P.nx : Int)) (A0 : ValsOk P n f) :
    Calls Try.prog 16 #[.agg #[.slice Av P.nv cv, .slice Ax P.nx cx, .slice As P.ns cs, .slice Ap P.np cp, .slice Ab P.nb cb, .int .i64 P.fuel], .int .i64 m, .slice Aw n cw] w fun e w' => e = .returned (.tuple #[.int .i64 (evs P.ex f (m.toNat + 1) m.toNat), .bool true]) ∧ Below w.heap.size w w' := by
  have hP := Box.new w 37 #[.slice Av P.nv cv, .slice Ax P.nx cx, .slice As P.ns cs, .slice Ap P.np cp, .slice Ab P.nb cb, .int .i64 P.fuel]
  have hB := (Below.refl w.heap.size w).alloc (Nat.le_refl _) (.cells #[.slice Av P.nv cv, .slice Ax P.nx cx, .slice As P.ns cs, .slice Ap P.np cp, .slice Ab P.nb cb, .int .i64 P.fuel] 37)
  obtain ⟨q0, q1, q2, q3, q4, q5, qf⟩ := hP.six
  have H := Lib.hid h
  have HI := Lib.hid hi
  have HSM := Lib.hid hs
  have CN : Hid (∀ W, _) := Lib.hid fun W => idx_any m (P.nx : Int) W
  clear h hs hi
  have F := Lib.hid F0
  have HV := Lib.hid F0.1
  have FA := Lib.hid A0
  have hd : decide ((0 : Int) ≤ m ∧ m < (P.nx : Int)) = true := decide_eq_true (by omega)
  rw [hd] at CN
  clear hd
  obtain ⟨i, rfl⟩ : ∃ i : Nat, m = (i : Int) := ⟨m.toNat, by omega⟩
  rw [Int.toNat_natCast]
  have hi0 : i < P.nx := by omega
  have hnx := F0.2.1.1
  have hnv : P.nv ≤ 5 := F0.1.2.2
  have HF := Lib.hid (vals_20 F0.1 A0)
  obtain rfl : n = P.nv := A0.1
  have HX := Lib.hid F0.2.1.2
  clear G0 A0 F0
  replace HX := Lib.hid (exsOk_left HX.out hi0)
  have wi : IntKind.i64.wrap ((i : Int) + 1) = ((i + 1 : Nat) : Int) := by rw [IntWalk.i64_in _ (by omega)]; omega
  replace hnx : i + 1 ≤ 40 := by omega
  have hs1 : ((i + 1 : Nat) : Int) ≤ (cx : Int) := by omega
  have hs2 : ((i + 1 : Nat) : Int) ≤ (P.nx : Int) := by omega
  have hs3 : ¬ (cx = 0) := by omega
  go_enter Try.func16, Try.ntmps16
  go_wp2_with (first
      | (go_at_call 54
         refine (implValid_any lo P Av Ax As Ap Ab cv cx cs cp cb _ HSM.out (H.out.below hB (Nat.le_refl _))).mono ?_
         rintro e w1 ⟨r, rfl, hr, hb⟩
         obtain rfl : r = true := hr.out.2 F.out
         clear q0 q1 q2 q3 q4 q5 qf hr
         replace hP := hP.below hb hP.lt
         replace hB := hB.trans (hb.mono hB.size)
         clear hb
         obtain ⟨q0, q1, q2, q3, q4, q5, qf⟩ := hP.six)
      | (go_at_call 55
         refine (CN.out _).mono ?_
         rintro e w2 ⟨rfl, rfl⟩)
      | (go_at_call 56
         refine (implVals_any lo lo' P Av Aw cv cw P.nv f _ HV.out hn (H.out.below hB (Nat.le_refl _)).v (HI.out.below hB (Nat.le_refl _))).mono ?_
         rintro e w3 ⟨r3, rfl, hr3, hb⟩
         obtain rfl : r3 = true := hr3.out.2 FA.out
         clear q0 q1 q2 q3 q4 q5 qf hr3
         replace hP := hP.below hb hP.lt
         replace hB := hB.trans (hb.mono hB.size)
         clear hb
         obtain ⟨q0, q1, q2, q3, q4, q5, qf⟩ := hP.six)
      | (go_at_call 57
         refine (implEv_any lo lo' Ax Aw (i + 1) cx P.nv cw P.ex f _ HX.out (Nat.succ_pos _) hnx hnv HF.out (exL_left (H.out.below hB (Nat.le_refl _)).x hi0) (HI.out.below hB (Nat.le_refl _))).mono ?_
         rintro e w4 ⟨rfl, hb⟩
         replace hB := hB.trans (hb.mono hB.size)
         clear hb))
  go_ret2
  exact ⟨rfl, hB⟩

theorem implEvE_any (lo lo' : Nat) (P : Prg) (Av Ax As Ap Ab Aw : Option Addr) (cv cx cs cp cb cw n : Nat) (m : Int) (f : Nat → Int) (w : World) (hs : P.small) (hcx : P.nx ≤ cx) (hn : n ≤ 1048576) (h : PgAt lo w Av Ax As Ap Ab P) (hi : IntsAt lo' w Aw n f) :
    Calls Try.prog 16 #[.agg #[.slice Av P.nv cv, .slice Ax P.nx cx, .slice As P.ns cs, .slice Ap P.np cp, .slice Ab P.nb cb, .int .i64 P.fuel], .int .i64 m, .slice Aw n cw] w fun e w' => e = .returned (.tuple #[.int .i64 (evU P m n f), .bool (evB P m n f)]) ∧ Below w.heap.size w w' := by
  by_cases F0 : PgOk P
  · by_cases G0 : 0 ≤ m ∧ m < (P.nx : Int)
    · by_cases A0 : ValsOk P n f
      · have hy := ev_yes (P := P) (m := m) (n := n) (f := f) ⟨F0, G0, A0⟩
        rw [hy.1, hy.2]
        exact implEvE_any4 lo lo' P Av Ax As Ap Ab Aw cv cx cs cp cb cw n m f w hs hcx hn h hi F0 G0 A0
      · have hy := ev_no (P := P) (m := m) (n := n) (f := f) (fun h => A0 h.2.2)
        rw [hy.1, hy.2]
        exact implEvE_any3 lo lo' P Av Ax As Ap Ab Aw cv cx cs cp cb cw n m f w hs hcx hn h hi F0 G0 A0
    · have hy := ev_no (P := P) (m := m) (n := n) (f := f) (fun h => G0 h.2.1)
      rw [hy.1, hy.2]
      exact implEvE_any2 lo lo' P Av Ax As Ap Ab Aw cv cx cs cp cb cw n m f w hs hcx hn h hi F0 G0
  · have hy := ev_no (P := P) (m := m) (n := n) (f := f) (fun h => F0 h.1)
    rw [hy.1, hy.2]
    exact implEvE_any1 lo lo' P Av Ax As Ap Ab Aw cv cx cs cp cb cw n m f w hs hcx hn h hi F0

end Go.Proofs.Ytcdgbjklfmlhkaa
