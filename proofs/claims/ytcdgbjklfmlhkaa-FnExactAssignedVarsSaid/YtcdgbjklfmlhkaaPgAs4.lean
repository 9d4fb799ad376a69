/-
  AssignedVars: the model's and the program's. (Written by gen_pgas.py.)
-/
import Derived.Test.YtcdgbjklfmlhkaaPgAs3
import Derived.Test.YtcdgbjklfmlhkaaPgVi
namespace Go.Proofs.Ytcdgbjklfmlhkaa
open Go.RowKit Num

/-- A rising list of numbers below m. -/
def Rise (m n : Nat) (f : Nat → Int) : Prop := ∀ j, j < n → (0 ≤ f j ∧ f j < (m : Int)) ∧ (0 < j → f (j - 1) < f j)

set_option maxRecDepth 100000 in
set_option maxHeartbeats 3200000 in
theorem specRise_any (lo : Nat) (A0 : Option Addr) (n c m : Nat) (f : Nat → Int) (w : World) (hn : n ≤ 1048576) (h : IntsAt lo w A0 n f) :
    Calls Try.prog 68 #[.slice A0 n c, .int .i64 0, .int .i64 ((m : Int) - 1)] w (Yn (Rise m n f) w) := by
  have H := Lib.hid h
  clear h
  go_enter Try.func68, Try.ntmps68
  go_wp2_with fail
  go_loopg [11] n (fun q iv wr => ∃ k : Nat, k + q = n ∧ iv = .int .i64 (k : Nat) ∧ Hid (∀ j, j < k → (0 ≤ f j ∧ f j < (m : Int)) ∧ (0 < j → f (j - 1) < f j)) ∧ w = wr)
  case atStart => exact ⟨0, by omega, rfl, Lib.hid fun j h => by omega, rfl⟩
  case round =>
    obtain ⟨k, hk, rfl, hq, rfl⟩ := hrel
    by_cases hk0 : k < n
    · obtain ⟨b, off, rfl, hb, r0⟩ := H.out.at_ hk0
      have CI : Hid (∀ W, _) := Lib.hid fun W => in3_any (f k) 0 ((m : Int) - 1) W
      cases hz : decide (0 ≤ f k ∧ f k ≤ (m : Int) - 1) with
      | false =>
        rw [hz] at CI
        have HZ := Lib.hid (of_decide_eq_false hz)
        clear hz
        go_wp2_with (go_at_call 47; refine (CI.out _).mono ?_; rintro e w' ⟨rfl, rfl⟩)
        go_ret
        exact Yn.no (fun h => HZ.out (by have := (h k hk0).1; omega)) (Below.refl _ _)
      | true =>
        rw [hz] at CI
        have HZ := Lib.hid (of_decide_eq_true hz)
        clear hz
        by_cases hk1 : k = 0
        · have d0 : decide ((0 : Int) < (k : Int)) = false := decide_eq_false (by omega)
          have d0n : decide (0 < k) = false := decide_eq_false (by omega)
          have HK := Lib.hid hk1
          clear hk1
          go_wp2_with (go_at_call 47; refine (CI.out _).mono ?_; rintro e w' ⟨rfl, rfl⟩)
          go_roundg (gk - 1)
          case rel => exact ⟨k + 1, by omega, by go_num, Lib.hid fun j hj => by
            obtain rfl : j = k := by have := HK.out; omega
            exact ⟨by have := HZ.out; omega, fun h => by have := HK.out; omega⟩, rfl⟩
          case measure => omega
        · have d0 : decide ((0 : Int) < (k : Int)) = true := decide_eq_true (by omega)
          have d0n : decide (0 < k) = true := decide_eq_true (by omega)
          have wk : IntKind.i64.wrap ((k : Int) - 1) = ((k - 1 : Nat) : Int) := by rw [IntWalk.i64_in _ (by omega)]; omega
          obtain ⟨b', off', e', hb', r1⟩ := H.out.at_ (show k - 1 < n by omega)
          injection e' with e'
          injection e' with e1 e2 _
          subst e1 e2
          have i1 : (0 : Int) ≤ ((k - 1 : Nat) : Int) := by omega
          have i2 : ((k - 1 : Nat) : Int) < (n : Int) := by omega
          cases hy : decide (f k ≤ f (k - 1)) with
          | true =>
            have HY := Lib.hid (of_decide_eq_true hy)
            go_wp2_with (go_at_call 47; refine (CI.out _).mono ?_; rintro e w' ⟨rfl, rfl⟩)
            go_ret
            exact Yn.no (fun h => by have := (h k hk0).2 (by omega); have := HY.out; omega) (Below.refl _ _)
          | false =>
            have HY := Lib.hid (of_decide_eq_false hy)
            go_wp2_with (go_at_call 47; refine (CI.out _).mono ?_; rintro e w' ⟨rfl, rfl⟩)
            go_roundg (gk - 1)
            case rel => exact ⟨k + 1, by omega, by go_num, Lib.hid fun j hj => by
              by_cases hjk : j < k
              · exact hq.out j hjk
              · obtain rfl : j = k := by omega
                exact ⟨by have := HZ.out; omega, fun _ => by have := HY.out; omega⟩, rfl⟩
            case measure => omega
    · obtain rfl : k = n := by omega
      go_wp2_with fail
      go_ret
      exact Yn.yes hq.out (Below.refl _ _)

set_option maxRecDepth 100000 in
set_option maxHeartbeats 3200000 in
theorem implRise_any (lo : Nat) (A0 : Option Addr) (n c m : Nat) (f : Nat → Int) (w : World) (hn : n ≤ 1048576) (h : IntsAt lo w A0 n f) :
    Calls Try.prog 70 #[.slice A0 n c, .int .i64 (m : Nat)] w (Yn (Rise m n f) w) := by
  have H := Lib.hid h
  clear h
  go_enter Try.func70, Try.ntmps70
  go_wp2_with fail
  go_loopg [9] n (fun q iv wr => ∃ k : Nat, k + q = n ∧ iv = .int .i64 (k : Nat) ∧ Hid (∀ j, j < k → (0 ≤ f j ∧ f j < (m : Int)) ∧ (0 < j → f (j - 1) < f j)) ∧ w = wr)
  case atStart => exact ⟨0, by omega, rfl, Lib.hid fun j h => by omega, rfl⟩
  case round =>
    obtain ⟨k, hk, rfl, hq, rfl⟩ := hrel
    by_cases hk0 : k < n
    · obtain ⟨b, off, rfl, hb, r0⟩ := H.out.at_ hk0
      have CI : Hid (∀ W, _) := Lib.hid fun W => idx_any (f k) (m : Int) W
      cases hz : decide (0 ≤ f k ∧ f k < (m : Int)) with
      | false =>
        rw [hz] at CI
        have HZ := Lib.hid (of_decide_eq_false hz)
        clear hz
        go_wp2_with (go_at_call 55; refine (CI.out _).mono ?_; rintro e w' ⟨rfl, rfl⟩)
        go_ret
        exact Yn.no (fun h => HZ.out (by have := (h k hk0).1; omega)) (Below.refl _ _)
      | true =>
        rw [hz] at CI
        have HZ := Lib.hid (of_decide_eq_true hz)
        clear hz
        by_cases hk1 : k = 0
        · have d0 : decide ((0 : Int) < (k : Int)) = false := decide_eq_false (by omega)
          have d0n : decide (0 < k) = false := decide_eq_false (by omega)
          have HK := Lib.hid hk1
          clear hk1
          go_wp2_with (go_at_call 55; refine (CI.out _).mono ?_; rintro e w' ⟨rfl, rfl⟩)
          go_roundg (gk - 1)
          case rel => exact ⟨k + 1, by omega, by go_num, Lib.hid fun j hj => by
            obtain rfl : j = k := by have := HK.out; omega
            exact ⟨by have := HZ.out; omega, fun h => by have := HK.out; omega⟩, rfl⟩
          case measure => omega
        · have d0 : decide ((0 : Int) < (k : Int)) = true := decide_eq_true (by omega)
          have d0n : decide (0 < k) = true := decide_eq_true (by omega)
          have wk : IntKind.i64.wrap ((k : Int) - 1) = ((k - 1 : Nat) : Int) := by rw [IntWalk.i64_in _ (by omega)]; omega
          obtain ⟨b', off', e', hb', r1⟩ := H.out.at_ (show k - 1 < n by omega)
          injection e' with e'
          injection e' with e1 e2 _
          subst e1 e2
          have i1 : (0 : Int) ≤ ((k - 1 : Nat) : Int) := by omega
          have i2 : ((k - 1 : Nat) : Int) < (n : Int) := by omega
          cases hy : decide (f k ≤ f (k - 1)) with
          | true =>
            have HY := Lib.hid (of_decide_eq_true hy)
            go_wp2_with (go_at_call 55; refine (CI.out _).mono ?_; rintro e w' ⟨rfl, rfl⟩)
            go_ret
            exact Yn.no (fun h => by have := (h k hk0).2 (by omega); have := HY.out; omega) (Below.refl _ _)
          | false =>
            have HY := Lib.hid (of_decide_eq_false hy)
            go_wp2_with (go_at_call 55; refine (CI.out _).mono ?_; rintro e w' ⟨rfl, rfl⟩)
            go_roundg (gk - 1)
            case rel => exact ⟨k + 1, by omega, by go_num, Lib.hid fun j hj => by
              by_cases hjk : j < k
              · exact hq.out j hjk
              · obtain rfl : j = k := by omega
                exact ⟨by have := HZ.out; omega, fun _ => by have := HY.out; omega⟩, rfl⟩
            case measure => omega
    · obtain rfl : k = n := by omega
      go_wp2_with fail
      go_ret
      exact Yn.yes hq.out (Below.refl _ _)

theorem BoolsC.made (n : Nat) : BoolsC (madeCells #[.bool false] n) n (fun _ => false) := by
  refine ⟨size_madeCells _ _, fun m hm => ?_⟩
  have h1 : (madeCells #[Value.bool false] n).toList[m]? = some (.bool false) := by rw [toList_madeCells_one, List.getElem?_replicate, if_pos hm]
  rw [← Array.getElem?_toList, h1]

theorem holg6 {p0 p1 p2 p3 p4 p5 K : Prop} (h : p0 ∧ p1 ∧ p2 ∧ p3 ∧ p4 ∧ p5 ∧ K) : K := h.2.2.2.2.2.2
theorem KeepG.fst {G : Nat} {a b : World} (h : KeepG G a b) : Below G a b := h.1

def sg0 : Sg := (fun _ => false, fun _ => false)
theorem ups_none (K : Nat) : ups (fun _ => false) K = [] := by
  induction K with
  | zero => rfl
  | succ k ih => rw [ups_succ, ih]; rfl

theorem basS_all (P : Prg) (hs : P.small) (F : PgOk P) : ∀ f d, BAS P d f := by
  intro f
  induction f using Nat.strongRecOn with
  | _ f ih =>
    intro d
    induction d with
    | zero => exact basS_of P hs F.1.2.2 F.2.2.1.2 F.2.2.2.2.2.1 F.2.2.2.2.2.2 0 f (fun d' h => by omega) (fun g hg => ih g (by omega) P.ns)
    | succ d ihd => exact basS_of P hs F.1.2.2 F.2.2.1.2 F.2.2.2.2.2.1 F.2.2.2.2.2.2 (d + 1) f (fun d' h => (show d = d' by omega) ▸ ihd) (fun g hg => ih g (by omega) P.ns)
theorem basI_all (P : Prg) (hs : P.small) (F : PgOk P) : ∀ f d, BAI P d f := by
  intro f
  induction f using Nat.strongRecOn with
  | _ f ih =>
    intro d
    have hpa := paI_of P hs F.2.2.1.2 F.2.2.2.2.2.2 f (fun g hg => ih g (by omega) P.ns)
    induction d with
    | zero => exact basI_of P hs F.1.2.2 F.2.2.1.2 F.2.2.2.2.2.1 F.2.2.2.2.2.2 0 f (fun d' h => by omega) hpa
    | succ d ihd => exact basI_of P hs F.1.2.2 F.2.2.1.2 F.2.2.2.2.2.1 F.2.2.2.2.2.2 (d + 1) f (fun d' h => (show d = d' by omega) ▸ ihd) hpa

/-- The answer. -/
def AvOk (P : Prg) (n : Nat) (f : Nat → Int) : Prop := PgOk P ∧ Rise P.ns n f
def avS (P : Prg) (n : Nat) (f : Nat → Int) : Sg := foldS (asD P (asC P 3) P.ns) f n sg0
open Classical in
noncomputable def avL (P : Prg) (n : Nat) (f : Nat → Int) : List Int := if AvOk P n f then ups (avS P n f).2 5 else []
open Classical in
noncomputable def avB (P : Prg) (n : Nat) (f : Nat → Int) : Bool := if AvOk P n f then true else false
noncomputable def avN (P : Prg) (n : Nat) (f : Nat → Int) : Nat := (avL P n f).length
noncomputable def avF (P : Prg) (n : Nat) (f : Nat → Int) : Nat → Int := fun j => (avL P n f).getD j 0
theorem avN_le (P : Prg) (n : Nat) (f : Nat → Int) : avN P n f ≤ 1048576 := by
  unfold avN avL
  split
  · have := ups_le (avS P n f).2 5; omega
  · exact Nat.zero_le _
theorem av_no {P : Prg} {n : Nat} {f : Nat → Int} (h : ¬ AvOk P n f) : avL P n f = [] ∧ avB P n f = false := ⟨if_neg h, if_neg h⟩
theorem av_yes {P : Prg} {n : Nat} {f : Nat → Int} (h : AvOk P n f) : avL P n f = ups (avS P n f).2 5 ∧ avB P n f = true := ⟨if_pos h, if_pos h⟩
theorem unv3 {P : Prg} (F : PgOk P) : unv P.np sg0 ≤ 3 := Nat.le_trans (unv_le _ _) F.2.2.1.2

set_option maxRecDepth 100000 in
set_option maxHeartbeats 3200000 in
theorem specAv_any1 (lo lo' : Nat) (P : Prg) (Av Ax As Ap Ab Aw : Option Addr) (cv cx cs cp cb cw n : Nat) (f : Nat → Int) (w : World) (hs : P.small) (hcv : P.nv ≤ cv) (hcp : P.np ≤ cp) (_hn : n ≤ 1048576) (h : PgAt lo w Av Ax As Ap Ab P) (hi : IntsAt lo' w Aw n f) (F0 : ¬ PgOk P) :
    Calls Try.prog 24 #[.agg #[.slice Av P.nv cv, .slice Ax P.nx cx, .slice As P.ns cs, .slice Ap P.np cp, .slice Ab P.nb cb, .int .i64 P.fuel], .slice Aw n cw] w fun e w' => ∃ A c, e = .returned (.tuple #[.slice A ([] : List Int).length c, .bool false]) ∧ LsAt w.heap.size w' A ([] : List Int) ∧ Below w.heap.size w w' := by
  have hP := Box.new w 37 #[.slice Av P.nv cv, .slice Ax P.nx cx, .slice As P.ns cs, .slice Ap P.np cp, .slice Ab P.nb cb, .int .i64 P.fuel]
  have hB := (Below.refl w.heap.size w).alloc (Nat.le_refl _) (.cells #[.slice Av P.nv cv, .slice Ax P.nx cx, .slice As P.ns cs, .slice Ap P.np cp, .slice Ab P.nb cb, .int .i64 P.fuel] 37)
  obtain ⟨q0, q1, q2, q3, q4, q5, qf⟩ := hP.six
  have H := Lib.hid h
  have HI := Lib.hid hi
  have HSM := Lib.hid hs
  have wn : IntKind.i64.wrap ((P.ns : Int) - 1) = (P.ns : Int) - 1 := IntWalk.i64_in _ (by have := hs.ns; omega)
  clear h hi hs
  have F := Lib.hid F0
  clear F0
  go_enter Try.func24, Try.ntmps24
  go_wp2_with (first
      | (go_at_call 46
         refine (specVal_any lo P Av Ax As Ap Ab cv cx cs cp cb _ HSM.out hcv hcp (H.out.below hB (Nat.le_refl _))).mono ?_
         rintro e w1 ⟨r, rfl, hr, hb⟩
         obtain rfl : r = false := by cases r with | false => rfl | true => exact absurd (hr.out.1 rfl) F.out
         clear q0 q1 q2 q3 q4 q5 qf hr
         replace hP := hP.below hb hP.lt
         replace hB := hB.trans (hb.mono hB.size)
         clear hb
         obtain ⟨q0, q1, q2, q3, q4, q5, qf⟩ := hP.six))
  go_ret2
  exact ⟨none, 0, rfl, fun h => absurd h (Nat.lt_irrefl 0), hB⟩

set_option maxRecDepth 100000 in
set_option maxHeartbeats 3200000 in
theorem specAv_any2 (lo lo' : Nat) (P : Prg) (Av Ax As Ap Ab Aw : Option Addr) (cv cx cs cp cb cw n : Nat) (f : Nat → Int) (w : World) (hs : P.small) (hcv : P.nv ≤ cv) (hcp : P.np ≤ cp) (hn : n ≤ 1048576) (h : PgAt lo w Av Ax As Ap Ab P) (hi : IntsAt lo' w Aw n f) (F0 : PgOk P) (G0 : ¬ Rise P.ns n f) :
    Calls Try.prog 24 #[.agg #[.slice Av P.nv cv, .slice Ax P.nx cx, .slice As P.ns cs, .slice Ap P.np cp, .slice Ab P.nb cb, .int .i64 P.fuel], .slice Aw n cw] w fun e w' => ∃ A c, e = .returned (.tuple #[.slice A ([] : List Int).length c, .bool false]) ∧ LsAt w.heap.size w' A ([] : List Int) ∧ Below w.heap.size w w' := by
  have hP := Box.new w 37 #[.slice Av P.nv cv, .slice Ax P.nx cx, .slice As P.ns cs, .slice Ap P.np cp, .slice Ab P.nb cb, .int .i64 P.fuel]
  have hB := (Below.refl w.heap.size w).alloc (Nat.le_refl _) (.cells #[.slice Av P.nv cv, .slice Ax P.nx cx, .slice As P.ns cs, .slice Ap P.np cp, .slice Ab P.nb cb, .int .i64 P.fuel] 37)
  obtain ⟨q0, q1, q2, q3, q4, q5, qf⟩ := hP.six
  have H := Lib.hid h
  have HI := Lib.hid hi
  have HSM := Lib.hid hs
  have wn : IntKind.i64.wrap ((P.ns : Int) - 1) = (P.ns : Int) - 1 := IntWalk.i64_in _ (by have := hs.ns; omega)
  clear h hi hs
  have F := Lib.hid F0
  have FR := Lib.hid G0
  clear F0 G0
  go_enter Try.func24, Try.ntmps24
  go_wp2_with (first
      | (go_at_call 46
         refine (specVal_any lo P Av Ax As Ap Ab cv cx cs cp cb _ HSM.out hcv hcp (H.out.below hB (Nat.le_refl _))).mono ?_
         rintro e w1 ⟨r, rfl, hr, hb⟩
         obtain rfl : r = true := hr.out.2 F.out
         clear q0 q1 q2 q3 q4 q5 qf hr
         replace hP := hP.below hb hP.lt
         replace hB := hB.trans (hb.mono hB.size)
         clear hb
         obtain ⟨q0, q1, q2, q3, q4, q5, qf⟩ := hP.six)
      | (go_at_call 68
         refine (specRise_any lo' Aw n cw P.ns f _ hn (HI.out.below hB (Nat.le_refl _))).mono ?_
         rintro e w1 ⟨r, rfl, hr, hb⟩
         obtain rfl : r = false := by cases r with | false => rfl | true => exact absurd (hr.out.1 rfl) FR.out
         clear q0 q1 q2 q3 q4 q5 qf hr
         replace hP := hP.below hb hP.lt
         replace hB := hB.trans (hb.mono hB.size)
         clear hb
         obtain ⟨q0, q1, q2, q3, q4, q5, qf⟩ := hP.six))
  go_ret2
  exact ⟨none, 0, rfl, fun h => absurd h (Nat.lt_irrefl 0), hB⟩

set_option maxRecDepth 100000 in
set_option maxHeartbeats 3200000 in
theorem specAv_any3 (lo lo' : Nat) (P : Prg) (Av Ax As Ap Ab Aw : Option Addr) (cv cx cs cp cb cw n : Nat) (f : Nat → Int) (w : World) (hs : P.small) (hcv : P.nv ≤ cv) (hcp : P.np ≤ cp) (hn : n ≤ 1048576) (h : PgAt lo w Av Ax As Ap Ab P) (hi : IntsAt lo' w Aw n f) (F0 : PgOk P) (G0 : Rise P.ns n f) :
    Calls Try.prog 24 #[.agg #[.slice Av P.nv cv, .slice Ax P.nx cx, .slice As P.ns cs, .slice Ap P.np cp, .slice Ab P.nb cb, .int .i64 P.fuel], .slice Aw n cw] w fun e w' => ∃ A c, e = .returned (.tuple #[.slice A (ups (avS P n f).2 5).length c, .bool true]) ∧ LsAt w.heap.size w' A (ups (avS P n f).2 5) ∧ Below w.heap.size w w' := by
  have hP := Box.new w 37 #[.slice Av P.nv cv, .slice Ax P.nx cx, .slice As P.ns cs, .slice Ap P.np cp, .slice Ab P.nb cb, .int .i64 P.fuel]
  have hB := (Below.refl w.heap.size w).alloc (Nat.le_refl _) (.cells #[.slice Av P.nv cv, .slice Ax P.nx cx, .slice As P.ns cs, .slice Ap P.np cp, .slice Ab P.nb cb, .int .i64 P.fuel] 37)
  obtain ⟨q0, q1, q2, q3, q4, q5, qf⟩ := hP.six
  have H := Lib.hid h
  have HI := Lib.hid hi
  have HSM := Lib.hid hs
  have wn : IntKind.i64.wrap ((P.ns : Int) - 1) = (P.ns : Int) - 1 := IntWalk.i64_in _ (by have := hs.ns; omega)
  clear h hi hs
  have F := Lib.hid F0
  have FR := Lib.hid G0
  have hmk := mk_bool P.np (by have := F0.2.2.1.2; omega)
  clear F0 G0
  go_enter Try.func24, Try.ntmps24
  go_upto_region 3 with (first
      | (go_at_call 46
         refine (specVal_any lo P Av Ax As Ap Ab cv cx cs cp cb _ HSM.out hcv hcp (H.out.below hB (Nat.le_refl _))).mono ?_
         rintro e w1 ⟨r, rfl, hr, hb⟩
         obtain rfl : r = true := hr.out.2 F.out
         clear q0 q1 q2 q3 q4 q5 qf hr
         replace hP := hP.below hb hP.lt
         replace hB := hB.trans (hb.mono hB.size)
         clear hb
         obtain ⟨q0, q1, q2, q3, q4, q5, qf⟩ := hP.six)
      | (go_at_call 68
         refine (specRise_any lo' Aw n cw P.ns f _ hn (HI.out.below hB (Nat.le_refl _))).mono ?_
         rintro e w1 ⟨r, rfl, hr, hb⟩
         obtain rfl : r = true := hr.out.2 FR.out
         clear q0 q1 q2 q3 q4 q5 qf hr
         replace hP := hP.below hb hP.lt
         replace hB := hB.trans (hb.mono hB.size)
         clear hb
         obtain ⟨q0, q1, q2, q3, q4, q5, qf⟩ := hP.six))
  have hbl := hP.lt
  rename World => w2
  have hA0 : AStS P sg0 w2.heap.size (.slice none 0 0) ((w2.alloc (.cells (madeCells #[.bool false] P.np) 4)).drew) := AStS.below (w := w2.alloc (.cells (madeCells #[.bool false] P.np) 4)) ⟨_, Box.new w2 _ _, BoolsC.made P.np, .inl ⟨ups_none 5, rfl⟩⟩ (Below.refl _ _).drew
  have CA : Hid (∀ W, Below w2.heap.size w2 W → AStS P sg0 w2.heap.size (.slice none 0 0) W → _) := Lib.hid fun W hw hx => basS_all P HSM.out F.out 3 P.ns lo lo' n f Av Ax As Ap Ab Aw cv cx cs cp cb cw w2.heap.size sg0 (.slice none 0 0) w2 W (H.out.below hB (Nat.le_refl _)) (HI.out.below hB (Nat.le_refl _)) hw (Nat.le_refl _) hn (fun j hj => by have := (FR.out j hj).1; omega) (unv3 F.out) hx
  go_region_held3 (fun w' => w'.cell? ⟨w.heap.size, 0, none⟩ = some (.slice Av P.nv cv) ∧ w'.cell? ⟨w.heap.size, 1, none⟩ = some (.slice Ax P.nx cx) ∧ w'.cell? ⟨w.heap.size, 2, none⟩ = some (.slice As P.ns cs) ∧ w'.cell? ⟨w.heap.size, 3, none⟩ = some (.slice Ap P.np cp) ∧ w'.cell? ⟨w.heap.size, 4, none⟩ = some (.slice Ab P.nb cb) ∧ w'.cell? ⟨w.heap.size, 5, none⟩ = some (.int .i64 P.fuel) ∧ Below w2.heap.size w2 w')
      ((suffices hBB : Below w2.heap.size w2 _ from ⟨(hBB.cell hbl).trans q0, (hBB.cell hbl).trans q1, (hBB.cell hbl).trans q2, (hBB.cell hbl).trans q3, (hBB.cell hbl).trans q4, (hBB.cell hbl).trans q5, hBB⟩; first | exact (Below.refl _ w2).drew | exact holg6 (by assumption) | (exact Below.alloc (holg6 (by assumption)) (by simp) _) | (exact Below.trans (holg6 (by assumption)) (KeepG.fst (by assumption)))))
      (first
        | (go_at_call 69; refine (CA.out _ (holg6 (by assumption)) hA0).mono ?_; rintro e w5 ⟨xv5, rfl, hst5, hk5⟩; obtain ⟨cs5, hb5, hc5, ho5⟩ := hst5; obtain ⟨A5, c5, rfl, hl5⟩ := ho5.at_))
  all_goals have hbb : Below w2.heap.size w2 _ := holg6 (by assumption)
  all_goals go_wp2_with fail
  all_goals go_ret2
  all_goals exact ⟨A5, c5, rfl, hl5.low (by have := hB.size; omega), hB.trans (hbb.mono hB.size)⟩

theorem specAv_any (lo lo' : Nat) (P : Prg) (Av Ax As Ap Ab Aw : Option Addr) (cv cx cs cp cb cw n : Nat) (f : Nat → Int) (w : World) (hs : P.small) (hcv : P.nv ≤ cv) (hcp : P.np ≤ cp) (hn : n ≤ 1048576) (h : PgAt lo w Av Ax As Ap Ab P) (hi : IntsAt lo' w Aw n f) :
    Calls Try.prog 24 #[.agg #[.slice Av P.nv cv, .slice Ax P.nx cx, .slice As P.ns cs, .slice Ap P.np cp, .slice Ab P.nb cb, .int .i64 P.fuel], .slice Aw n cw] w fun e w' => ∃ A c, e = .returned (.tuple #[.slice A (avN P n f) c, .bool (avB P n f)]) ∧ IntsAt w.heap.size w' A (avN P n f) (avF P n f) ∧ Below w.heap.size w w' := by
  by_cases F0 : PgOk P
  · by_cases G0 : Rise P.ns n f
    · skip
      have hy := av_yes (P := P) (n := n) (f := f) ⟨F0, G0⟩
      refine (specAv_any3 lo lo' P Av Ax As Ap Ab Aw cv cx cs cp cb cw n f w hs hcv hcp hn h hi F0 G0).mono ?_
      rintro e w' ⟨A, c, he, hl, hb⟩
      exact ⟨A, c, by rw [avN, hy.1, hy.2]; exact he, by unfold avN avF; rw [hy.1]; exact hl, hb⟩
    · skip
      have hy := av_no (P := P) (n := n) (f := f) (fun h => G0 h.2)
      refine (specAv_any2 lo lo' P Av Ax As Ap Ab Aw cv cx cs cp cb cw n f w hs hcv hcp hn h hi F0 G0).mono ?_
      rintro e w' ⟨A, c, he, hl, hb⟩
      exact ⟨A, c, by rw [avN, hy.1, hy.2]; exact he, by unfold avN avF; rw [hy.1]; exact hl, hb⟩
  · skip
    have hy := av_no (P := P) (n := n) (f := f) (fun h => F0 h.1)
    refine (specAv_any1 lo lo' P Av Ax As Ap Ab Aw cv cx cs cp cb cw n f w hs hcv hcp hn h hi F0).mono ?_
    rintro e w' ⟨A, c, he, hl, hb⟩
    exact ⟨A, c, by rw [avN, hy.1, hy.2]; exact he, by unfold avN avF; rw [hy.1]; exact hl, hb⟩

set_option maxRecDepth 100000 in
set_option maxHeartbeats 3200000 in
theorem implAv_any1 (lo lo' : Nat) (P : Prg) (Av Ax As Ap Ab Aw : Option Addr) (cv cx cs cp cb cw n : Nat) (f : Nat → Int) (w : World) (hs : P.small) (_hn : n ≤ 1048576) (h : PgAt lo w Av Ax As Ap Ab P) (hi : IntsAt lo' w Aw n f) (F0 : ¬ PgOk P) :
    Calls Try.prog 25 #[.agg #[.slice Av P.nv cv, .slice Ax P.nx cx, .slice As P.ns cs, .slice Ap P.np cp, .slice Ab P.nb cb, .int .i64 P.fuel], .slice Aw n cw] w fun e w' => ∃ A c, e = .returned (.tuple #[.slice A ([] : List Int).length c, .bool false]) ∧ LsAt w.heap.size w' A ([] : List Int) ∧ Below w.heap.size w w' := by
  have hP := Box.new w 37 #[.slice Av P.nv cv, .slice Ax P.nx cx, .slice As P.ns cs, .slice Ap P.np cp, .slice Ab P.nb cb, .int .i64 P.fuel]
  have hB := (Below.refl w.heap.size w).alloc (Nat.le_refl _) (.cells #[.slice Av P.nv cv, .slice Ax P.nx cx, .slice As P.ns cs, .slice Ap P.np cp, .slice Ab P.nb cb, .int .i64 P.fuel] 37)
  obtain ⟨q0, q1, q2, q3, q4, q5, qf⟩ := hP.six
  have H := Lib.hid h
  have HI := Lib.hid hi
  have HSM := Lib.hid hs
  clear h hi hs
  have F := Lib.hid F0
  clear F0
  go_enter Try.func25, Try.ntmps25
  go_wp2_with (first
      | (go_at_call 54
         refine (implValid_any lo P Av Ax As Ap Ab cv cx cs cp cb _ HSM.out (H.out.below hB (Nat.le_refl _))).mono ?_
         rintro e w1 ⟨r, rfl, hr, hb⟩
         obtain rfl : r = false := by cases r with | false => rfl | true => exact absurd (hr.out.1 rfl) F.out
         clear q0 q1 q2 q3 q4 q5 qf hr
         replace hP := hP.below hb hP.lt
         replace hB := hB.trans (hb.mono hB.size)
         clear hb
         obtain ⟨q0, q1, q2, q3, q4, q5, qf⟩ := hP.six))
  go_ret2
  exact ⟨none, 0, rfl, fun h => absurd h (Nat.lt_irrefl 0), hB⟩

set_option maxRecDepth 100000 in
set_option maxHeartbeats 3200000 in
theorem implAv_any2 (lo lo' : Nat) (P : Prg) (Av Ax As Ap Ab Aw : Option Addr) (cv cx cs cp cb cw n : Nat) (f : Nat → Int) (w : World) (hs : P.small) (hn : n ≤ 1048576) (h : PgAt lo w Av Ax As Ap Ab P) (hi : IntsAt lo' w Aw n f) (F0 : PgOk P) (G0 : ¬ Rise P.ns n f) :
    Calls Try.prog 25 #[.agg #[.slice Av P.nv cv, .slice Ax P.nx cx, .slice As P.ns cs, .slice Ap P.np cp, .slice Ab P.nb cb, .int .i64 P.fuel], .slice Aw n cw] w fun e w' => ∃ A c, e = .returned (.tuple #[.slice A ([] : List Int).length c, .bool false]) ∧ LsAt w.heap.size w' A ([] : List Int) ∧ Below w.heap.size w w' := by
  have hP := Box.new w 37 #[.slice Av P.nv cv, .slice Ax P.nx cx, .slice As P.ns cs, .slice Ap P.np cp, .slice Ab P.nb cb, .int .i64 P.fuel]
  have hB := (Below.refl w.heap.size w).alloc (Nat.le_refl _) (.cells #[.slice Av P.nv cv, .slice Ax P.nx cx, .slice As P.ns cs, .slice Ap P.np cp, .slice Ab P.nb cb, .int .i64 P.fuel] 37)
  obtain ⟨q0, q1, q2, q3, q4, q5, qf⟩ := hP.six
  have H := Lib.hid h
  have HI := Lib.hid hi
  have HSM := Lib.hid hs
  clear h hi hs
  have F := Lib.hid F0
  have FR := Lib.hid G0
  clear F0 G0
  go_enter Try.func25, Try.ntmps25
  go_wp2_with (first
      | (go_at_call 54
         refine (implValid_any lo P Av Ax As Ap Ab cv cx cs cp cb _ HSM.out (H.out.below hB (Nat.le_refl _))).mono ?_
         rintro e w1 ⟨r, rfl, hr, hb⟩
         obtain rfl : r = true := hr.out.2 F.out
         clear q0 q1 q2 q3 q4 q5 qf hr
         replace hP := hP.below hb hP.lt
         replace hB := hB.trans (hb.mono hB.size)
         clear hb
         obtain ⟨q0, q1, q2, q3, q4, q5, qf⟩ := hP.six)
      | (go_at_call 70
         refine (implRise_any lo' Aw n cw P.ns f _ hn (HI.out.below hB (Nat.le_refl _))).mono ?_
         rintro e w1 ⟨r, rfl, hr, hb⟩
         obtain rfl : r = false := by cases r with | false => rfl | true => exact absurd (hr.out.1 rfl) FR.out
         clear q0 q1 q2 q3 q4 q5 qf hr
         replace hP := hP.below hb hP.lt
         replace hB := hB.trans (hb.mono hB.size)
         clear hb
         obtain ⟨q0, q1, q2, q3, q4, q5, qf⟩ := hP.six))
  go_ret2
  exact ⟨none, 0, rfl, fun h => absurd h (Nat.lt_irrefl 0), hB⟩

set_option maxRecDepth 100000 in
set_option maxHeartbeats 3200000 in
theorem implAv_any3 (lo lo' : Nat) (P : Prg) (Av Ax As Ap Ab Aw : Option Addr) (cv cx cs cp cb cw n : Nat) (f : Nat → Int) (w : World) (hs : P.small) (hn : n ≤ 1048576) (h : PgAt lo w Av Ax As Ap Ab P) (hi : IntsAt lo' w Aw n f) (F0 : PgOk P) (G0 : Rise P.ns n f) :
    Calls Try.prog 25 #[.agg #[.slice Av P.nv cv, .slice Ax P.nx cx, .slice As P.ns cs, .slice Ap P.np cp, .slice Ab P.nb cb, .int .i64 P.fuel], .slice Aw n cw] w fun e w' => ∃ A c, e = .returned (.tuple #[.slice A (ups (avS P n f).2 5).length c, .bool true]) ∧ LsAt w.heap.size w' A (ups (avS P n f).2 5) ∧ Below w.heap.size w w' := by
  have hP := Box.new w 37 #[.slice Av P.nv cv, .slice Ax P.nx cx, .slice As P.ns cs, .slice Ap P.np cp, .slice Ab P.nb cb, .int .i64 P.fuel]
  have hB := (Below.refl w.heap.size w).alloc (Nat.le_refl _) (.cells #[.slice Av P.nv cv, .slice Ax P.nx cx, .slice As P.ns cs, .slice Ap P.np cp, .slice Ab P.nb cb, .int .i64 P.fuel] 37)
  obtain ⟨q0, q1, q2, q3, q4, q5, qf⟩ := hP.six
  have H := Lib.hid h
  have HI := Lib.hid hi
  have HSM := Lib.hid hs
  clear h hi hs
  have F := Lib.hid F0
  have FR := Lib.hid G0
  clear F0 G0
  go_enter Try.func25, Try.ntmps25
  go_upto_region 3 with (first
      | (go_at_call 54
         refine (implValid_any lo P Av Ax As Ap Ab cv cx cs cp cb _ HSM.out (H.out.below hB (Nat.le_refl _))).mono ?_
         rintro e w1 ⟨r, rfl, hr, hb⟩
         obtain rfl : r = true := hr.out.2 F.out
         clear q0 q1 q2 q3 q4 q5 qf hr
         replace hP := hP.below hb hP.lt
         replace hB := hB.trans (hb.mono hB.size)
         clear hb
         obtain ⟨q0, q1, q2, q3, q4, q5, qf⟩ := hP.six)
      | (go_at_call 70
         refine (implRise_any lo' Aw n cw P.ns f _ hn (HI.out.below hB (Nat.le_refl _))).mono ?_
         rintro e w1 ⟨r, rfl, hr, hb⟩
         obtain rfl : r = true := hr.out.2 FR.out
         clear q0 q1 q2 q3 q4 q5 qf hr
         replace hP := hP.below hb hP.lt
         replace hB := hB.trans (hb.mono hB.size)
         clear hb
         obtain ⟨q0, q1, q2, q3, q4, q5, qf⟩ := hP.six))
  rename World => w2
  have hbx := Box.new w2 94 #[.bool false, .bool false, .bool false, .bool false, .bool false, .bool false, .bool false, .bool false]
  have hal := (Below.refl w2.heap.size w2).alloc (Nat.le_refl _) (.cells #[.bool false, .bool false, .bool false, .bool false, .bool false, .bool false, .bool false, .bool false] 94)
  have hA0 : AStI P sg0 w2.heap.size (w2.alloc (.cells #[.bool false, .bool false, .bool false, .bool false, .bool false, .bool false, .bool false, .bool false] 94)) := ⟨_, hbx, rfl, fun j hj => by
    have : abits sg0 j = false := by unfold abits sg0; split <;> rfl
    rw [this]
    match j, hj with
    | 0, _ => rfl
    | 1, _ => rfl
    | 2, _ => rfl
    | 3, _ => rfl
    | 4, _ => rfl
    | 5, _ => rfl
    | 6, _ => rfl
    | 7, _ => rfl⟩
  have CA : Hid (∀ W, Below w2.heap.size w2 W → AStI P sg0 w2.heap.size W → _) := Lib.hid fun W hw hx => basI_all P HSM.out F.out 3 P.ns lo lo' n f Av Ax As Ap Ab Aw cv cx cs cp cb cw w2.heap.size sg0 w2 W (H.out.below hB (Nat.le_refl _)) (HI.out.below hB (Nat.le_refl _)) hw (Nat.le_refl _) hn (fun j hj => by have := (FR.out j hj).1; omega) (unv3 F.out) hx
  clear q0 q1 q2 q3 q4 q5 qf
  have hP3 := hP.alloc (.cells #[.bool false, .bool false, .bool false, .bool false, .bool false, .bool false, .bool false, .bool false] 94)
  obtain ⟨q0, q1, q2, q3, q4, q5, qf⟩ := hP3.six
  go_wp2_with (first
    | (go_at_call 71
       refine (CA.out _ hal hA0).mono ?_
       rintro e w5 ⟨⟨v5, rfl⟩, hst5, hk5⟩
       clear q0 q1 q2 q3 q4 q5 qf
       have hB5 := (hB.trans (hal.mono hB.size)).trans (hk5.1.mono hB.size)
       obtain ⟨cs5, hb5, hc5⟩ := hst5
       have hbools : BoolsAt w5 (some ⟨w2.heap.size, 0, none⟩) 5 (avS P n f).2 := fun j hj => ⟨_, 0, rfl, hb5.lt, by rw [Nat.zero_add, hc5.at_ hb5 (show j < 8 by omega), abits, if_pos hj]; rfl⟩)
    | (go_at_call 72
       refine (setBits_any _ 5 5 _ _ (by omega) hbools).mono ?_
       rintro e w6 ⟨A6, c6, rfl, hl6, hb6⟩))
  go_ret2
  exact ⟨A6, c6, rfl, hl6.low hB5.size, hB5.trans (hb6.mono hB5.size)⟩

theorem implAv_any (lo lo' : Nat) (P : Prg) (Av Ax As Ap Ab Aw : Option Addr) (cv cx cs cp cb cw n : Nat) (f : Nat → Int) (w : World) (hs : P.small) (hn : n ≤ 1048576) (h : PgAt lo w Av Ax As Ap Ab P) (hi : IntsAt lo' w Aw n f) :
    Calls Try.prog 25 #[.agg #[.slice Av P.nv cv, .slice Ax P.nx cx, .slice As P.ns cs, .slice Ap P.np cp, .slice Ab P.nb cb, .int .i64 P.fuel], .slice Aw n cw] w fun e w' => ∃ A c, e = .returned (.tuple #[.slice A (avN P n f) c, .bool (avB P n f)]) ∧ IntsAt w.heap.size w' A (avN P n f) (avF P n f) ∧ Below w.heap.size w w' := by
  by_cases F0 : PgOk P
  · by_cases G0 : Rise P.ns n f
    · skip
      have hy := av_yes (P := P) (n := n) (f := f) ⟨F0, G0⟩
      refine (implAv_any3 lo lo' P Av Ax As Ap Ab Aw cv cx cs cp cb cw n f w hs hn h hi F0 G0).mono ?_
      rintro e w' ⟨A, c, he, hl, hb⟩
      exact ⟨A, c, by rw [avN, hy.1, hy.2]; exact he, by unfold avN avF; rw [hy.1]; exact hl, hb⟩
    · skip
      have hy := av_no (P := P) (n := n) (f := f) (fun h => G0 h.2)
      refine (implAv_any2 lo lo' P Av Ax As Ap Ab Aw cv cx cs cp cb cw n f w hs hn h hi F0 G0).mono ?_
      rintro e w' ⟨A, c, he, hl, hb⟩
      exact ⟨A, c, by rw [avN, hy.1, hy.2]; exact he, by unfold avN avF; rw [hy.1]; exact hl, hb⟩
  · skip
    have hy := av_no (P := P) (n := n) (f := f) (fun h => F0 h.1)
    refine (implAv_any1 lo lo' P Av Ax As Ap Ab Aw cv cx cs cp cb cw n f w hs hn h hi F0).mono ?_
    rintro e w' ⟨A, c, he, hl, hb⟩
    exact ⟨A, c, by rw [avN, hy.1, hy.2]; exact he, by unfold avN avF; rw [hy.1]; exact hl, hb⟩

end Go.Proofs.Ytcdgbjklfmlhkaa
