/-
  IsValidExprs: the model's and the program's, and the law.
-/
import Derived.Test.YtoaiejodbmkbjaaGreatDoorExprS3
import Derived.Deep.LoopGhost
import Derived.Deep.DeepCutAuto
import Derived.Deep.RegionHeld3
namespace Go.Proofs.YtoaiejodbmkbjaaGreatDoor
open Go.RowKit Num

theorem below_of_alloc {w w1 : World} {o : Obj} (h : Below (w.alloc o).heap.size (w.alloc o) w1) : Below w.heap.size w w1 :=
  ((Below.refl _ w).alloc (Nat.le_refl _) o).trans (h.mono (by simp))

/-- The first k expressions are valid for m variables. -/
def exsOk (F : Nat → Nat → Int) (m : Nat) : Nat → Bool
  | 0 => true
  | k + 1 => exsOk F m k && exOk (F k 0) (F k 1) (F k 2) (F k 3) k m

theorem exsOk_up {F : Nat → Nat → Int} {m k n : Nat} (h : k ≤ n) (h0 : exsOk F m k = false) : exsOk F m n = false := by
  induction n with
  | zero => obtain rfl : k = 0 := by omega
            exact h0
  | succ n ih =>
    by_cases hk : k ≤ n
    · show (exsOk F m n && _) = false
      rw [ih hk]; rfl
    · obtain rfl : k = n + 1 := by omega
      exact h0

theorem l3In_any (n lo hi : Int) (w : World) :
    Calls Tryz.prog 15 #[.int .i64 n, .int .i64 lo, .int .i64 hi] w fun e w' => e = .returned (.bool (decide (lo ≤ n ∧ n ≤ hi))) ∧ w = w' := by
  by_cases h1 : lo ≤ n
  · have e : decide (lo ≤ n ∧ n ≤ hi) = decide (n ≤ hi) := by simp [h1]
    have h1' : (decide (lo ≤ n)) = true := decide_eq_true h1
    rw [e]
    go_enter Tryz.func15, Tryz.ntmps15
    go_wp2
    go_ret
    exact ⟨rfl, rfl⟩
  · have e : decide (lo ≤ n ∧ n ≤ hi) = false := by simp [h1]
    have h1' : (decide (lo ≤ n)) = false := decide_eq_false h1
    rw [e]
    go_enter Tryz.func15, Tryz.ntmps15
    go_wp2
    go_ret
    exact ⟨rfl, rfl⟩

set_option maxRecDepth 100000 in
set_option maxHeartbeats 1600000 in
theorem specExs_any (A0 : Option Addr) (n cap : Nat) (F : Nat → Nat → Int) (m : Nat) (w : World) (hn : n ≤ 1048576) (hm : m ≤ 5) (hA : ExAt w A0 n F) :
    Calls Tryz.prog 36 #[.slice A0 n cap, .int .i64 (m : Nat)] w fun e w' => e = .returned (.bool (decide (n ≤ 40) && exsOk F m n)) ∧ Below w.heap.size w w' := by
  have HA := Lib.hid hA; clear hA
  by_cases h40 : n ≤ 40
  · rw [decide_eq_true h40, Bool.true_and]
    obtain ⟨r, hr⟩ : ∃ r, r = exsOk F m n := ⟨_, rfl⟩
    rw [← hr]
    have Hr := Lib.hid hr; clear hr
    go_enter Tryz.func36, Tryz.ntmps36
    go_wp2_with fail
    go_loopg [12] n (fun q iv wr => ∃ k : Nat, k + q = n ∧ iv = .int .i64 (k : Nat) ∧ exsOk F m k = true ∧ Below w.heap.size w wr)
    case atStart => exact ⟨0, by omega, rfl, rfl, Below.refl _ _⟩
    case round =>
      obtain ⟨k, hk, rfl, hok, hbel⟩ := hrel
      have HOK := Lib.hid hok; clear hok
      by_cases h0 : k < n
      · have hAw : ExAt wr A0 n F := HA.out.below hbel (Nat.le_refl _)
        obtain ⟨b, off, rfl, hb, r0, r1, r2, r3⟩ := hAw.at_ h0
        have C : Hid (∀ W, _) := Lib.hid fun W => specEx_any (F k 0) (F k 1) (F k 2) (F k 3) k m W (by omega) (by omega)
        have Hb := Lib.hid hb; clear hb hAw
        have hstep : exsOk F m (k + 1) = (exsOk F m k && exOk (F k 0) (F k 1) (F k 2) (F k 3) k m) := rfl
        rw [HOK.out, Bool.true_and] at hstep
        cases hx : exOk (F k 0) (F k 1) (F k 2) (F k 3) k m with
        | false =>
          rw [hx] at C hstep
          have hrf := exsOk_up (show k + 1 ≤ n by omega) hstep
          rw [← Hr.out] at hrf
          have Hrf := Lib.hid hrf
          clear hstep hx hrf
          go_wp2_with (go_at_call 59; refine (C.out _).mono ?_; rintro e w1 ⟨rfl, hb1⟩)
          go_ret
          refine ⟨by rw [Hrf.out]; rfl, hbel.trans ((below_of_alloc hb1).mono hbel.size)⟩
        | true =>
          rw [hx] at C hstep
          have HST := Lib.hid hstep
          clear hstep hx
          go_wp2_with (go_at_call 59; refine (C.out _).mono ?_; rintro e w1 ⟨rfl, hb1⟩)
          go_roundg (gk - 1)
          case rel => exact ⟨k + 1, by omega, by go_num, HST.out, hbel.trans ((below_of_alloc hb1).mono hbel.size)⟩
          case measure => omega
      · obtain rfl : k = n := by omega
        go_wp2_with fail
        go_ret
        exact ⟨by rw [Hr.out, HOK.out]; rfl, hbel⟩
  · rw [decide_eq_false h40, Bool.false_and]
    go_enter Tryz.func36, Tryz.ntmps36
    go_wp2_with fail
    go_ret
    exact ⟨rfl, Below.refl _ _⟩

set_option maxRecDepth 100000 in
set_option maxHeartbeats 1600000 in
theorem implExs_yes (A0 : Option Addr) (n cap : Nat) (F : Nat → Nat → Int) (m : Nat) (w : World) (hn : n ≤ 1048576) (hm : m ≤ 5) (hA : ExAt w A0 n F) :
    Calls Tryz.prog 48 #[.slice A0 n cap, .int .i64 (m : Nat)] w fun e w' => e = .returned (.bool (decide (n ≤ 40) && exsOk F m n)) ∧ Below w.heap.size w w' := by
  have HA := Lib.hid hA; clear hA
  have hd1 : decide (((m : Nat) : Int) < 0) = false := decide_eq_false (by omega)
  have hd2 : decide ((5 : Int) < ((m : Nat) : Int)) = false := decide_eq_false (by omega)
  by_cases h40 : n ≤ 40
  · have hd0 : decide ((40 : Int) < ((n : Nat) : Int)) = false := decide_eq_false (by omega)
    rw [decide_eq_true h40, Bool.true_and]
    obtain ⟨r, hr⟩ : ∃ r, r = exsOk F m n := ⟨_, rfl⟩
    rw [← hr]
    have Hr := Lib.hid hr; clear hr
    go_enter Tryz.func48, Tryz.ntmps48
    go_wp2_with fail
    go_loopg [20] n (fun q iv wr => ∃ k : Nat, k + q = n ∧ iv = .int .i64 (k : Nat) ∧ exsOk F m k = true ∧ Below w.heap.size w wr)
    case atStart => exact ⟨0, by omega, rfl, rfl, Below.refl _ _⟩
    case round =>
      obtain ⟨k, hk, rfl, hok, hbel⟩ := hrel
      have HOK := Lib.hid hok; clear hok
      by_cases h0 : k < n
      · have hAw : ExAt wr A0 n F := HA.out.below hbel (Nat.le_refl _)
        obtain ⟨b, off, rfl, hb, r0, r1, r2, r3⟩ := hAw.at_ h0
        have C : Hid (∀ W, _) := Lib.hid fun W => implEx_any (F k 0) (F k 1) (F k 2) (F k 3) k m W (by omega) (by omega)
        have Hb := Lib.hid hb; clear hb hAw
        have hstep : exsOk F m (k + 1) = (exsOk F m k && exOk (F k 0) (F k 1) (F k 2) (F k 3) k m) := rfl
        rw [HOK.out, Bool.true_and] at hstep
        cases hx : exOk (F k 0) (F k 1) (F k 2) (F k 3) k m with
        | false =>
          rw [hx] at C hstep
          have hrf := exsOk_up (show k + 1 ≤ n by omega) hstep
          rw [← Hr.out] at hrf
          have Hrf := Lib.hid hrf
          clear hstep hx hrf
          go_wp2_with (go_at_call 66; refine (C.out _).mono ?_; rintro e w1 ⟨rfl, hb1⟩)
          go_ret
          refine ⟨by rw [Hrf.out]; rfl, hbel.trans ((below_of_alloc hb1).mono hbel.size)⟩
        | true =>
          rw [hx] at C hstep
          have HST := Lib.hid hstep
          clear hstep hx
          go_wp2_with (go_at_call 66; refine (C.out _).mono ?_; rintro e w1 ⟨rfl, hb1⟩)
          go_roundg (gk - 1)
          case rel => exact ⟨k + 1, by omega, by go_num, HST.out, hbel.trans ((below_of_alloc hb1).mono hbel.size)⟩
          case measure => omega
      · obtain rfl : k = n := by omega
        go_wp2_with fail
        go_ret
        exact ⟨by rw [Hr.out, HOK.out]; rfl, hbel⟩
  · have hd0 : decide ((40 : Int) < ((n : Nat) : Int)) = true := decide_eq_true (by omega)
    rw [decide_eq_false h40, Bool.false_and]
    go_enter Tryz.func48, Tryz.ntmps48
    go_wp2_with fail
    go_ret
    exact ⟨rfl, Below.refl _ _⟩

set_option maxRecDepth 100000 in
set_option maxHeartbeats 1600000 in
theorem implExs_no (A0 : Option Addr) (n cap : Nat) (m : Int) (w : World) (hm : m < 0 ∨ 5 < m) :
    Calls Tryz.prog 48 #[.slice A0 n cap, .int .i64 m] w fun e w' => e = .returned (.bool false) ∧ Below w.heap.size w w' := by
  by_cases h40 : n ≤ 40
  · have hd0 : decide ((40 : Int) < ((n : Nat) : Int)) = false := decide_eq_false (by omega)
    rcases hm with hm | hm
    · have hd1 : decide (m < 0) = true := decide_eq_true hm
      go_enter Tryz.func48, Tryz.ntmps48
      go_wp2_with fail
      go_ret
      exact ⟨rfl, Below.refl _ _⟩
    · have hd1 : decide (m < 0) = false := decide_eq_false (by omega)
      have hd2 : decide (5 < m) = true := decide_eq_true hm
      go_enter Tryz.func48, Tryz.ntmps48
      go_wp2_with fail
      go_ret
      exact ⟨rfl, Below.refl _ _⟩
  · have hd0 : decide ((40 : Int) < ((n : Nat) : Int)) = true := decide_eq_true (by omega)
    go_enter Tryz.func48, Tryz.ntmps48
    go_wp2_with fail
    go_ret
    exact ⟨rfl, Below.refl _ _⟩

/-- Whether a list of expressions is valid. -/
def exsRes (F : Nat → Nat → Int) (n : Nat) (m : Int) : Bool := decide (0 ≤ m ∧ m ≤ 5) && (decide (n ≤ 40) && exsOk F m.toNat n)

theorem implExs_any (A0 : Option Addr) (n cap : Nat) (F : Nat → Nat → Int) (m : Int) (w : World) (hn : n ≤ 1048576) (hA : ExAt w A0 n F) :
    Calls Tryz.prog 48 #[.slice A0 n cap, .int .i64 m] w fun e w' => e = .returned (.bool (exsRes F n m)) ∧ Below w.heap.size w w' := by
  unfold exsRes
  by_cases hm : 0 ≤ m ∧ m ≤ 5
  · rw [decide_eq_true hm, Bool.true_and]
    obtain ⟨k, rfl⟩ : ∃ k : Nat, m = (k : Nat) := ⟨m.toNat, by omega⟩
    rw [Int.toNat_natCast]
    exact implExs_yes A0 n cap F k w hn (by omega) hA
  · rw [decide_eq_false hm, Bool.false_and]
    exact implExs_no A0 n cap m w (by omega)

theorem eqEx_any (op a b v : Int) (w : World) :
    Calls Tryz.prog 54 #[.agg #[.int .i64 op, .int .i64 a, .int .i64 b, .int .i64 v], .agg #[.int .i64 op, .int .i64 a, .int .i64 b, .int .i64 v]] w fun e w' => e = .returned (.bool true) ∧ Below w.heap.size w w' := by
  have hA := (Box.new w 80 #[.int .i64 op, .int .i64 a, .int .i64 b, .int .i64 v]).alloc (.cells #[.int .i64 op, .int .i64 a, .int .i64 b, .int .i64 v] 80)
  have q0 := hA.cell 0
  have q1 := hA.cell 1
  have q2 := hA.cell 2
  have q3 := hA.cell 3
  go_enter Tryz.func54, Tryz.ntmps54
  go_wp2_with fail
  go_ret
  exact ⟨rfl, ((Below.refl _ w).alloc (Nat.le_refl _) _).alloc (by simp) _⟩

theorem ExAt.cells {w : World} {b off n : Nat} {F : Nat → Nat → Int} (h : ExAt w (some ⟨b, off, none⟩) n F) {j : Nat} (hj : j < n) :
    w.cell? ⟨b, off + j * 4, none⟩ = some (.int .i64 (F j 0)) ∧ w.cell? ⟨b, off + j * 4 + 1, none⟩ = some (.int .i64 (F j 1)) ∧ w.cell? ⟨b, off + j * 4 + 2, none⟩ = some (.int .i64 (F j 2)) ∧ w.cell? ⟨b, off + j * 4 + 3, none⟩ = some (.int .i64 (F j 3)) := by
  obtain ⟨b', off', he, _, h0, h1, h2, h3⟩ := h.at_ hj
  injection he with he
  injection he with e1 e2 _
  subst e1 e2
  exact ⟨h0, h1, h2, h3⟩

theorem hold8 {W w' : World} {b off b' off' n j : Nat} {F : Nat → Nat → Int} (h : ExAt W (some ⟨b, off, none⟩) n F) (k : ExAt W (some ⟨b', off', none⟩) n F) (hj : j < n) (hb : Below W.heap.size W w') :
    w'.cell? ⟨b, off + j * 4, none⟩ = some (.int .i64 (F j 0)) ∧ w'.cell? ⟨b, off + j * 4 + 1, none⟩ = some (.int .i64 (F j 1)) ∧ w'.cell? ⟨b, off + j * 4 + 2, none⟩ = some (.int .i64 (F j 2)) ∧ w'.cell? ⟨b, off + j * 4 + 3, none⟩ = some (.int .i64 (F j 3)) ∧
    w'.cell? ⟨b', off' + j * 4, none⟩ = some (.int .i64 (F j 0)) ∧ w'.cell? ⟨b', off' + j * 4 + 1, none⟩ = some (.int .i64 (F j 1)) ∧ w'.cell? ⟨b', off' + j * 4 + 2, none⟩ = some (.int .i64 (F j 2)) ∧ w'.cell? ⟨b', off' + j * 4 + 3, none⟩ = some (.int .i64 (F j 3)) ∧ Below W.heap.size W w' := by
  obtain ⟨h0, h1, h2, h3⟩ := (h.below hb (Nat.le_refl _)).cells hj
  obtain ⟨k0, k1, k2, k3⟩ := (k.below hb (Nat.le_refl _)).cells hj
  exact ⟨h0, h1, h2, h3, k0, k1, k2, k3, hb⟩
theorem hold8_below {W w' : World} {p1 p2 p3 p4 p5 p6 p7 p8 : Prop} (h : p1 ∧ p2 ∧ p3 ∧ p4 ∧ p5 ∧ p6 ∧ p7 ∧ p8 ∧ Below W.heap.size W w') : Below W.heap.size W w' := h.2.2.2.2.2.2.2.2
theorem step8 {W w1 w2 : World} (h : Below W.heap.size W w1) (k : Below w1.heap.size w1 w2) : Below W.heap.size W w2 := h.trans (k.mono h.size)

set_option maxRecDepth 100000 in
set_option maxHeartbeats 1600000 in
theorem eqExS_any (A0 A1 : Option Addr) (n c0 c1 : Nat) (F : Nat → Nat → Int) (w : World) (hn : n ≤ 1048576) (h0 : ExAt w A0 n F) (h1 : ExAt w A1 n F) :
    Calls Tryz.prog 28 #[.slice A0 n c0, .slice A1 n c1] w fun e w' => e = .returned (.bool true) ∧ Below w.heap.size w w' := by
  have H0 := Lib.hid h0; clear h0
  have H1 := Lib.hid h1; clear h1
  go_enter Tryz.func28, Tryz.ntmps28
  go_wp2_with fail
  go_loopg [5] n (fun q iv wr => ∃ k : Nat, k + q = n ∧ iv = .int .i64 (k : Nat) ∧ Below w.heap.size w wr)
  case atStart => exact ⟨0, by omega, rfl, Below.refl _ _⟩
  case round =>
    obtain ⟨k, hk, rfl, hbel⟩ := hrel
    by_cases hk0 : k < n
    · have ha0 := H0.out.below hbel (Nat.le_refl _)
      have ha1 := H1.out.below hbel (Nat.le_refl _)
      obtain ⟨b, off, rfl, _, _⟩ := ha0 (by omega)
      obtain ⟨b', off', rfl, _, _⟩ := ha1 (by omega)
      have C : Hid (∀ W, _) := Lib.hid fun W => eqEx_any (F k 0) (F k 1) (F k 2) (F k 3) W
      have HA0 := Lib.hid ha0
      have HA1 := Lib.hid ha1
      clear ha0 ha1
      go_upto_region 6 with fail
      go_region_held3 (fun w' => w'.cell? ⟨b, off + k * 4, none⟩ = some (.int .i64 (F k 0)) ∧ w'.cell? ⟨b, off + k * 4 + 1, none⟩ = some (.int .i64 (F k 1)) ∧ w'.cell? ⟨b, off + k * 4 + 2, none⟩ = some (.int .i64 (F k 2)) ∧ w'.cell? ⟨b, off + k * 4 + 3, none⟩ = some (.int .i64 (F k 3)) ∧ w'.cell? ⟨b', off' + k * 4, none⟩ = some (.int .i64 (F k 0)) ∧ w'.cell? ⟨b', off' + k * 4 + 1, none⟩ = some (.int .i64 (F k 1)) ∧ w'.cell? ⟨b', off' + k * 4 + 2, none⟩ = some (.int .i64 (F k 2)) ∧ w'.cell? ⟨b', off' + k * 4 + 3, none⟩ = some (.int .i64 (F k 3)) ∧ Below wr.heap.size wr w')
        ((refine hold8 HA0.out HA1.out hk0 ?_; first | exact (Below.refl _ wr).drew | exact hold8_below (by assumption) | (refine step8 (hold8_below (by assumption)) ?_; assumption)))
        ((go_at_call 54; refine (C.out _).mono ?_; rintro e w1 ⟨rfl, hb1⟩))
      all_goals go_wp2_with fail
      go_roundg (gk - 1)
      case rel => exact ⟨k + 1, by omega, by go_num, hbel.trans ((hold8_below (by assumption)).mono hbel.size)⟩
      case measure => omega
    · obtain rfl : k = n := by omega
      go_wp2_with fail
      go_ret
      exact ⟨rfl, hbel⟩

set_option maxRecDepth 100000 in
theorem szExS_any (A0 : Option Addr) (n cap : Nat) (w : World) (hn : n ≤ 9223372036854775807) :
    Calls Tryz.prog 10 #[.slice A0 n cap, .int .i64 1048576] w fun e w' => e = .returned (.int .i64 (if n ≤ 1048576 then 1048576 - (n : Int) else -1)) ∧ w = w' := by
  have hw : IntKind.i64.wrap (1048576 - (n : Int)) = 1048576 - (n : Int) := IntWalk.i64_in _ (by omega)
  by_cases h : n ≤ 1048576
  · rw [if_pos h]
    have h1 : ¬ (1048576 - (n : Int) < 0) := by omega
    go_enter Tryz.func10, Tryz.ntmps10
    go_wp2_with fail
    all_goals first
      | (go_ret; exact ⟨rfl, rfl⟩)
      | (exfalso; omega)
  · rw [if_neg h]
    have h1 : 1048576 - (n : Int) < 0 := by omega
    go_enter Tryz.func10, Tryz.ntmps10
    go_wp2_with fail
    all_goals first
      | (go_ret; exact ⟨rfl, rfl⟩)
      | (exfalso; omega)

end Go.Proofs.YtoaiejodbmkbjaaGreatDoor
