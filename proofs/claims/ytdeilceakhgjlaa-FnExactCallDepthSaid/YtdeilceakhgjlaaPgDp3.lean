/-
  CallDepth: the model's and the program's. (Written by gen_pgdp3.py.)
-/
import Derived.Test.YtdeilceakhgjlaaPgDp2
import Derived.Test.YtdeilceakhgjlaaPgCg5
namespace Go.Proofs.Ytdeilceakhgjlaa
open Go.RowKit Num

/-- The sets, one call deeper each. -/
def lev (g : Nat → Nat → Bool) (S : Nat → Bool) : Nat → Nat → Bool
  | 0 => S
  | k + 1 => stp g (lev g S k)
theorem lev_lt {P : Prg} {S : Nat → Bool} (hS : ∀ j, S j = true → j < P.np) : ∀ {k j : Nat}, lev (gr P) S k j = true → j < P.np
  | 0, j, h => hS j h
  | k + 1, j, h => by
    simp only [lev, stp, Bool.or_eq_true, Bool.and_eq_true] at h
    rcases h with (⟨_, b⟩ | ⟨_, b⟩) | ⟨_, b⟩
    · exact gr_lt P _ j b
    · exact gr_lt P _ j b
    · exact gr_lt P _ j b
theorem SetOf.pos {xs : List Int} {S : Nat → Bool} (h : SetOf xs S) : 0 < xs.length ↔ (S 0 || S 1 || S 2) = true := by
  constructor
  · intro h0
    obtain ⟨x, xs', rfl⟩ : ∃ x xs', xs = x :: xs' := by
      cases xs with
      | nil => exact absurd h0 (Nat.lt_irrefl 0)
      | cons x xs' => exact ⟨x, xs', rfl⟩
    obtain ⟨j, hj, hs, _⟩ := (h x).1 List.mem_cons_self
    have hc : j = 0 ∨ j = 1 ∨ j = 2 := by omega
    rcases hc with rfl | rfl | rfl <;> simp [hs]
  · intro hs
    have key : ∀ j : Nat, j < 3 → S j = true → 0 < xs.length := fun j hj h1 => List.length_pos_iff.2 (List.ne_nil_of_mem ((h _).2 ⟨j, hj, h1, rfl⟩))
    simp only [Bool.or_eq_true] at hs
    rcases hs with (a | a) | a
    · exact key 0 (by omega) a
    · exact key 1 (by omega) a
    · exact key 2 (by omega) a
theorem idle_small {P : Prg} (h : P.small) : (idle P).small := ⟨h.nv, h.nx, h.ns, h.np, h.nb, h.vn, h.pn, h.pl, fun j hj => by
  have h1 := h.st j hj
  refine ⟨?_, ?_, ?_⟩
  · show (idl (P.st j)).nc ≤ 1048576
    have e : (idl (P.st j)).nc = (P.st j).nc := by unfold idl; split <;> rfl
    rw [e]; exact h1.nc
  · show (idl (P.st j)).nt ≤ 1048576
    rcases idl_nt (P.st j) with e | e
    · rw [e]; exact h1.nt
    · rw [e]; exact Nat.zero_le _
  · show (idl (P.st j)).ne ≤ 1048576
    rw [idl_ne]; exact h1.ne⟩

/-- The answer. -/
def cdV (P : Prg) : Nat := dep (gr (idle P)) (P.fuel.toNat + 1) (gr (idle P) P.np)
open Classical in
noncomputable def cdU (P : Prg) : Int := if PgOk P then (cdV P : Int) else 0
open Classical in
noncomputable def cdB (P : Prg) : Bool := if PgOk P then true else false
theorem cd_no {P : Prg} (h : ¬ PgOk P) : cdU P = 0 ∧ cdB P = false := ⟨if_neg h, if_neg h⟩
theorem cd_yes {P : Prg} (h : PgOk P) : cdU P = (cdV P : Int) ∧ cdB P = true := ⟨if_pos h, if_pos h⟩

set_option maxRecDepth 100000 in
set_option maxHeartbeats 6400000 in
theorem specCD_any1 (lo : Nat) (P : Prg) (Av Ax As Ap Ab : Option Addr) (cv cx cs cp cb : Nat) (w : World) (hs : P.small) (hcv : P.nv ≤ cv) (hcp : P.np ≤ cp) (h : PgAt lo w Av Ax As Ap Ab P) (F0 : ¬ PgOk P) :
    Calls Try.prog 20 #[.agg #[.slice Av P.nv cv, .slice Ax P.nx cx, .slice As P.ns cs, .slice Ap P.np cp, .slice Ab P.nb cb, .int .i64 P.fuel]] w fun e w' => e = .returned (.tuple #[.int .i64 0, .bool false]) ∧ Below w.heap.size w w' := by
  have hP := Box.new w 37 #[.slice Av P.nv cv, .slice Ax P.nx cx, .slice As P.ns cs, .slice Ap P.np cp, .slice Ab P.nb cb, .int .i64 P.fuel]
  have hB := (Below.refl w.heap.size w).alloc (Nat.le_refl _) (.cells #[.slice Av P.nv cv, .slice Ax P.nx cx, .slice As P.ns cs, .slice Ap P.np cp, .slice Ab P.nb cb, .int .i64 P.fuel] 37)
  obtain ⟨q0, q1, q2, q3, q4, q5, qf⟩ := hP.six
  have H := Lib.hid h
  have HSM := Lib.hid hs
  have F := Lib.hid F0
  clear F0 h hs
  go_enter Try.func20, Try.ntmps20
  go_wp2_with (first
      | (go_at_call 42
         refine (specVal_any lo P Av Ax As Ap Ab cv cx cs cp cb _ HSM.out hcv hcp (H.out.below hB (Nat.le_refl _))).mono ?_
         rintro e w1 ⟨r, rfl, hr, hb⟩
         obtain rfl : r = false := by cases r with | false => rfl | true => exact absurd (hr.out.1 rfl) F.out
         clear q0 q1 q2 q3 q4 q5 qf hr
         replace hP := hP.below hb hP.lt
         replace hB := hB.trans (hb.mono hB.size)
         clear hb
         obtain ⟨q0, q1, q2, q3, q4, q5, qf⟩ := hP.six))
  go_ret2
  exact ⟨rfl, hB⟩

set_option maxRecDepth 100000 in
set_option maxHeartbeats 6400000 in
theorem specCD_any2 (lo : Nat) (P : Prg) (Av Ax As Ap Ab : Option Addr) (cv cx cs cp cb : Nat) (w : World) (hs : P.small) (hcv : P.nv ≤ cv) (hcp : P.np ≤ cp) (h : PgAt lo w Av Ax As Ap Ab P) (F0 : PgOk P) :
    Calls Try.prog 20 #[.agg #[.slice Av P.nv cv, .slice Ax P.nx cx, .slice As P.ns cs, .slice Ap P.np cp, .slice Ab P.nb cb, .int .i64 P.fuel]] w fun e w' => e = .returned (.tuple #[.int .i64 (cdV P : Nat), .bool true]) ∧ Below w.heap.size w w' := by
  have hP := Box.new w 37 #[.slice Av P.nv cv, .slice Ax P.nx cx, .slice As P.ns cs, .slice Ap P.np cp, .slice Ab P.nb cb, .int .i64 P.fuel]
  have hB := (Below.refl w.heap.size w).alloc (Nat.le_refl _) (.cells #[.slice Av P.nv cv, .slice Ax P.nx cx, .slice As P.ns cs, .slice Ap P.np cp, .slice Ab P.nb cb, .int .i64 P.fuel] 37)
  obtain ⟨q0, q1, q2, q3, q4, q5, qf⟩ := hP.six
  have H := Lib.hid h
  have HSM := Lib.hid hs
  have F := Lib.hid F0
  have hfu := F0.2.2.2.2.1
  have CD : Hid (∀ W, Below w.heap.size w W → _) := Lib.hid fun W (hw : Below w.heap.size w W) => bdS_all P hs F0 (P.fuel.toNat + 1) P.ns lo lo P.nb P.bd Av Ax As Ap Ab Ab cv cx cs cp cb cb P.fuel w W h h.b hw hs.nb (fun j hj => by have := F0.w.2.2.1 j hj; omega) (by omega) (by omega)
  have HV : Hid (dep (gr (idle P)) (P.fuel.toNat + 1) (foldU (clD (idle P) P.ns) P.bd P.nb nob) = cdV P) := Lib.hid (by
    rw [cdV]
    congr 1
    exact (if_neg (Nat.lt_irrefl _)).symm)
  rw [HV.out] at CD
  clear F0 h hs hfu
  go_enter Try.func20, Try.ntmps20
  go_wp2_with (first
      | (go_at_call 42
         refine (specVal_any lo P Av Ax As Ap Ab cv cx cs cp cb _ HSM.out hcv hcp (H.out.below hB (Nat.le_refl _))).mono ?_
         rintro e w1 ⟨r, rfl, hr, hb⟩
         obtain rfl : r = true := hr.out.2 F.out
         clear q0 q1 q2 q3 q4 q5 qf hr
         replace hP := hP.below hb hP.lt
         replace hB := hB.trans (hb.mono hB.size)
         clear hb
         obtain ⟨q0, q1, q2, q3, q4, q5, qf⟩ := hP.six)
      | (go_at_call 57
         refine (CD.out _ hB).mono ?_
         rintro e w3 ⟨rfl, hb⟩))
  go_ret2
  exact ⟨rfl, hB.trans (hb.mono hB.size)⟩

set_option maxRecDepth 100000 in
set_option maxHeartbeats 6400000 in
theorem implCD_any1 (lo : Nat) (P : Prg) (Av Ax Ap Ab : Option Addr) (b3 cv cx cs cp cb : Nat) (w : World) (hs : P.small) (h : PgAt lo w Av Ax (some ⟨b3, 0, none⟩) Ap Ab P) (F0 : ¬ PgOk P) :
    Calls Try.prog 21 #[.agg #[.slice Av P.nv cv, .slice Ax P.nx cx, .slice (some ⟨b3, 0, none⟩) P.ns cs, .slice Ap P.np cp, .slice Ab P.nb cb, .int .i64 P.fuel]] w fun e w' => e = .returned (.tuple #[.int .i64 0, .bool false]) ∧ Below w.heap.size w w' := by
  have hP := Box.new w 37 #[.slice Av P.nv cv, .slice Ax P.nx cx, .slice (some ⟨b3, 0, none⟩) P.ns cs, .slice Ap P.np cp, .slice Ab P.nb cb, .int .i64 P.fuel]
  have hB := (Below.refl w.heap.size w).alloc (Nat.le_refl _) (.cells #[.slice Av P.nv cv, .slice Ax P.nx cx, .slice (some ⟨b3, 0, none⟩) P.ns cs, .slice Ap P.np cp, .slice Ab P.nb cb, .int .i64 P.fuel] 37)
  obtain ⟨q0, q1, q2, q3, q4, q5, qf⟩ := hP.six
  have H := Lib.hid h
  have HSM := Lib.hid hs
  have F := Lib.hid F0
  clear F0 h hs
  go_enter Try.func21, Try.ntmps21
  go_wp2_with (first
      | (go_at_call 34
         refine (implValid_any lo P Av Ax (some ⟨b3, 0, none⟩) Ap Ab cv cx cs cp cb _ HSM.out (H.out.below hB (Nat.le_refl _))).mono ?_
         rintro e w1 ⟨r, rfl, hr, hb⟩
         obtain rfl : r = false := by cases r with | false => rfl | true => exact absurd (hr.out.1 rfl) F.out
         clear q0 q1 q2 q3 q4 q5 qf hr
         replace hP := hP.below hb hP.lt
         replace hB := hB.trans (hb.mono hB.size)
         clear hb
         obtain ⟨q0, q1, q2, q3, q4, q5, qf⟩ := hP.six))
  go_ret2
  exact ⟨rfl, hB⟩

set_option maxRecDepth 100000 in
set_option maxHeartbeats 6400000 in
theorem implCD_any2 (lo : Nat) (P : Prg) (Av Ax Ap Ab : Option Addr) (b3 cv cx cs cp cb : Nat) (w : World) (hs : P.small) (h : PgAt lo w Av Ax (some ⟨b3, 0, none⟩) Ap Ab P) (F0 : PgOk P) :
    Calls Try.prog 21 #[.agg #[.slice Av P.nv cv, .slice Ax P.nx cx, .slice (some ⟨b3, 0, none⟩) P.ns cs, .slice Ap P.np cp, .slice Ab P.nb cb, .int .i64 P.fuel]] w fun e w' => e = .returned (.tuple #[.int .i64 (cdV P : Nat), .bool true]) ∧ Below w.heap.size w w' := by
  have hP := Box.new w 37 #[.slice Av P.nv cv, .slice Ax P.nx cx, .slice (some ⟨b3, 0, none⟩) P.ns cs, .slice Ap P.np cp, .slice Ab P.nb cb, .int .i64 P.fuel]
  have hB := (Below.refl w.heap.size w).alloc (Nat.le_refl _) (.cells #[.slice Av P.nv cv, .slice Ax P.nx cx, .slice (some ⟨b3, 0, none⟩) P.ns cs, .slice Ap P.np cp, .slice Ab P.nb cb, .int .i64 P.fuel] 37)
  obtain ⟨q0, q1, q2, q3, q4, q5, qf⟩ := hP.six
  have H := Lib.hid h
  have HSM := Lib.hid hs
  have F := Lib.hid F0
  have hfu := F0.2.2.2.2.1
  have hnp : P.np ≤ 3 := F0.2.2.1.2
  obtain ⟨fu, hfe⟩ : ∃ fu : Nat, P.fuel = (fu : Int) := ⟨P.fuel.toNat, by omega⟩
  have CI : Hid (∀ W, Below w.heap.size w W → _) := Lib.hid fun W (hw : Below w.heap.size w W) => wIdle_any lo P Av Ax Ap Ab b3 cv cx cs cp cb W hs (h.below hw (Nat.le_refl _))
  have CG : Hid (∀ (g cg : Nat) (W : World), PgAt 0 W Av Ax (some ⟨g, 0, none⟩) Ap Ab (idle P) → Calls Try.prog 44 #[.agg #[.slice Av P.nv cv, .slice Ax P.nx cx, .slice (some ⟨g, 0, none⟩) P.ns cg, .slice Ap P.np cp, .slice Ab P.nb cb, .int .i64 P.fuel]] W fun e w' => ∃ v, e = .returned v ∧ GrAt W.heap.size w' v (idle P) ∧ Below W.heap.size W w') := Lib.hid fun g cg W x => implGraph_any 0 (idle P) Av Ax (some ⟨g, 0, none⟩) Ap Ab cv cx cg cp cb W (idle_small hs) F0.w.idle x
  obtain ⟨G, hG⟩ : ∃ G, G = gr (idle P) := ⟨_, rfl⟩
  have hfu3 : fu ≤ 3 := by omega
  have HVV : Hid (cdV P = dep G (fu + 1) (G P.np)) := Lib.hid (by rw [cdV, hG, hfe, Int.toNat_natCast])
  have HG := Lib.hid hG
  have HFE := Lib.hid hfe
  clear F0 h hs hfu hG hfe
  go_enter Try.func21, Try.ntmps21
  go_upto_region 4 with (first
      | (go_at_call 34
         refine (implValid_any lo P Av Ax (some ⟨b3, 0, none⟩) Ap Ab cv cx cs cp cb _ HSM.out (H.out.below hB (Nat.le_refl _))).mono ?_
         rintro e w1 ⟨r, rfl, hr, hb⟩
         obtain rfl : r = true := hr.out.2 F.out
         clear q0 q1 q2 q3 q4 q5 qf hr
         replace hP := hP.below hb hP.lt
         replace hB := hB.trans (hb.mono hB.size)
         clear hb
         obtain ⟨q0, q1, q2, q3, q4, q5, qf⟩ := hP.six)
      | (go_at_call 58
         refine (CI.out _ hB).mono ?_
         rintro e w2 ⟨g, cg, rfl, hpi, hb⟩
         clear q0 q1 q2 q3 q4 q5 qf
         replace hP := hP.below hb hP.lt
         replace hB := hB.trans (hb.mono hB.size)
         clear hb
         obtain ⟨q0, q1, q2, q3, q4, q5, qf⟩ := hP.six)
      | (go_at_call 44
         refine (CG.out _ _ _ hpi).mono ?_
         rintro e w3 ⟨gv, rfl, hg, hb⟩
         have hz2 := hB.size
         clear q0 q1 q2 q3 q4 q5 qf hpi
         replace hP := hP.below hb hP.lt
         replace hB := hB.trans (hb.mono hB.size)
         clear hb
         obtain ⟨q0, q1, q2, q3, q4, q5, qf⟩ := hP.six))
  rename World => w3
  obtain ⟨g1, cap, A1, c1, rfl, hgl, s0, hrow⟩ := hg.row (show P.np < (idle P).np + 1 from Nat.lt_succ_self _)
  have hps := hP.lt
  have hni : (P.np : Int) < ((P.np + 1 : Nat) : Int) := by omega
  have e1 : (idle P).np + 1 = P.np + 1 := rfl
  rw [e1] at hg ⊢
  obtain ⟨_, _, e2, _, hls⟩ := hrow.open
  injection e2 with e2 _ e3
  subst e2 e3
  rw [← HG.out] at s0 hls
  have hx0 := SetOf.ups (G P.np)
  have hl0 := ups_le (G P.np) 3
  obtain ⟨xs0, hxs0⟩ : ∃ xs0, xs0 = ups (G P.np) 3 := ⟨_, rfl⟩
  rw [← hxs0] at s0 hls hx0 hl0
  have HGA := Lib.hid hg
  clear hg hrow e1 hxs0
  go_wp2_with fail
  clear s0 q0 q1 q2 q3 q4 q5 qf
  go_loopg [5, 6] (fu + 1) (fun q rv dv wr => ∃ (k : Nat) (A : Option Addr) (c l : Nat) (xs : List Int), k + q = fu + 1 ∧ rv = .slice A xs.length c ∧ dv = .int .i64 (k : Nat) ∧ LsAt l wr A xs ∧ Hid (SetOf xs (lev G (G P.np) k)) ∧ Hid (xs.length ≤ bnd k) ∧ Hid (dep G (fu + 1) (G P.np) = k + dep G (fu + 1 - k) (lev G (G P.np) k)) ∧ Below w3.heap.size w3 wr)
  case atStart => exact ⟨0, _, _, _, xs0, by omega, rfl, rfl, hls, Lib.hid hx0, Lib.hid hl0, Lib.hid (by rw [Nat.zero_add]; rfl), Below.refl _ _⟩
  case round =>
    rename World => w4
    obtain ⟨k, A, c, l, xs, hk, rfl, rfl, hls, hx, hl, hdep, hbel⟩ := hrel
    replace hP := hP.below hbel hps
    obtain ⟨_, _, _, _, _, q5, _⟩ := hP.six
    have hps4 := hP.lt
    by_cases h0 : 0 < xs.length
    · have d0 : decide ((0 : Int) < (xs.length : Int)) = true := decide_eq_true (by omega)
      have d0n : decide (0 < xs.length) = true := decide_eq_true h0
      have hne := hx.out.pos.1 h0
      by_cases hk0 : k ≤ fu
      · have d1 : decide ((k : Int) ≤ P.fuel) = true := decide_eq_true (by rw [HFE.out]; omega)
        have HDP : Hid (dep G (fu + 1) (G P.np) = (k + 1 : Nat) + dep G (fu + 1 - (k + 1)) (lev G (G P.np) (k + 1))) := Lib.hid (by
          rw [hdep.out, show fu + 1 - k = (fu + 1 - (k + 1)) + 1 by omega, dep_succ, if_pos hne]
          show k + (1 + dep G (fu + 1 - (k + 1)) (stp G (lev G (G P.np) k))) = k + 1 + dep G (fu + 1 - (k + 1)) (stp G (lev G (G P.np) k))
          omega)
        have hkb := bnd_le k (by omega)
        have hl2 := hl.out
        have CB : Hid (∀ W, Below w4.heap.size w4 W → _) := Lib.hid fun W (hw : Below w4.heap.size w4 W) => calledBy_any w.heap.size l c (idle P) (.slice (some ⟨g1, 0, none⟩) (P.np + 1) cap) A xs W (by omega) (fun z hz => by
          obtain ⟨j, hj, hs, rfl⟩ := (hx.out z).1 hz
          rw [HG.out] at hs
          have : j < P.np := lev_lt (P := idle P) (fun j hj => gr_lt (idle P) _ j hj) hs
          show 0 ≤ (j : Int) ∧ (j : Int) < (P.np : Int) + 1
          omega) (((HGA.out.below hbel (Nat.le_refl _)).below hw (Nat.le_refl _)).lowG hz2) (hls.below hw (Nat.le_refl _))
        have wk : IntKind.i64.wrap ((k : Int) + 1) = (k : Int) + 1 := IntWalk.i64_in _ (by omega)
        clear hne hl2 hls h0
        go_wp2_with (go_at_call 56; refine (CB.out _ (Below.refl _ _)).mono ?_; rintro e w6 ⟨v6, rfl, ho6, hb6⟩; obtain ⟨A6, c6, rfl, _, hls6⟩ := ho6.open)
        go_roundg (gk - 1)
        case rel => exact ⟨k + 1, _, _, _, flP (idle P) xs, by omega, rfl, by go_num, hls6, Lib.hid (by have := hx.out.fl (P := idle P); rw [← HG.out] at this; exact this), Lib.hid (by have := flP_le (idle P) xs; have := hl.out; rw [bnd_succ]; omega), HDP, hbel.trans (hb6.mono hbel.size)⟩
        case measure => omega
      · have d1 : decide ((k : Int) ≤ P.fuel) = false := decide_eq_false (by rw [HFE.out]; omega)
        have HE : Hid (cdV P = k) := Lib.hid (by
          rw [HVV.out, hdep.out, show fu + 1 - k = 0 by omega, dep_zero, Nat.add_zero])
        clear hls hne h0 hk0
        go_wp2_with fail
        go_ret2
        exact ⟨by rw [HE.out]; rfl, hB.trans (hbel.mono hB.size)⟩
    · have d0 : decide ((0 : Int) < (xs.length : Int)) = false := decide_eq_false (by omega)
      have d0n : decide (0 < xs.length) = false := decide_eq_false h0
      have HE : Hid (cdV P = k) := Lib.hid (by
        have hno : ¬ (lev G (G P.np) k 0 || lev G (G P.np) k 1 || lev G (G P.np) k 2) = true := fun z => h0 (hx.out.pos.2 z)
        rw [HVV.out, hdep.out]
        cases fu + 1 - k with
        | zero => rw [dep_zero, Nat.add_zero]
        | succ f => rw [dep_succ, if_neg hno, Nat.add_zero])
      clear hls h0
      go_wp2_with fail
      go_ret2
      exact ⟨by rw [HE.out]; rfl, hB.trans (hbel.mono hB.size)⟩

theorem specCD_any (lo : Nat) (P : Prg) (Av Ax As Ap Ab : Option Addr) (cv cx cs cp cb : Nat) (w : World) (hs : P.small) (hcv : P.nv ≤ cv) (hcp : P.np ≤ cp) (h : PgAt lo w Av Ax As Ap Ab P) :
    Calls Try.prog 20 #[.agg #[.slice Av P.nv cv, .slice Ax P.nx cx, .slice As P.ns cs, .slice Ap P.np cp, .slice Ab P.nb cb, .int .i64 P.fuel]] w fun e w' => e = .returned (.tuple #[.int .i64 (cdU P), .bool (cdB P)]) ∧ Below w.heap.size w w' := by
  by_cases F0 : PgOk P
  · rw [(cd_yes F0).1, (cd_yes F0).2]
    exact specCD_any2 lo P Av Ax As Ap Ab cv cx cs cp cb w hs hcv hcp h F0
  · rw [(cd_no F0).1, (cd_no F0).2]
    exact specCD_any1 lo P Av Ax As Ap Ab cv cx cs cp cb w hs hcv hcp h F0
theorem implCD_any (lo : Nat) (P : Prg) (Av Ax Ap Ab : Option Addr) (b3 cv cx cs cp cb : Nat) (w : World) (hs : P.small) (h : PgAt lo w Av Ax (some ⟨b3, 0, none⟩) Ap Ab P) :
    Calls Try.prog 21 #[.agg #[.slice Av P.nv cv, .slice Ax P.nx cx, .slice (some ⟨b3, 0, none⟩) P.ns cs, .slice Ap P.np cp, .slice Ab P.nb cb, .int .i64 P.fuel]] w fun e w' => e = .returned (.tuple #[.int .i64 (cdU P), .bool (cdB P)]) ∧ Below w.heap.size w w' := by
  by_cases F0 : PgOk P
  · rw [(cd_yes F0).1, (cd_yes F0).2]
    exact implCD_any2 lo P Av Ax Ap Ab b3 cv cx cs cp cb w hs h F0
  · rw [(cd_no F0).1, (cd_no F0).2]
    exact implCD_any1 lo P Av Ax Ap Ab b3 cv cx cs cp cb w hs h F0

end Go.Proofs.Ytdeilceakhgjlaa
