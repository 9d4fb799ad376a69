/-
  ConstantDiagram and VariableDiagram on both sides.
-/
import Derived.Test.YtamjfcckgeakfaaDgE
namespace Go.Proofs.Ytamjfcckgeakfaa
open Go.RowKit Num

theorem heldE3 {W W' : World} {p0 p1 p2 p3 p4 p5 : Prop} (h : p0 ∧ p1 ∧ p2 ∧ p3 ∧ p4 ∧ p5 ∧ Below W.heap.size W W') : Below W.heap.size W W' := h.2.2.2.2.2.2

/-- An answer of a diagram and a bool. -/
def DgPost (L r : Int) (n : Nat) (f : Nat → Int) (ok : Bool) (w : World) (e : Ending) (w' : World) : Prop :=
  ∃ A c, e = .returned (.tuple #[dgV L A n c r, .bool ok]) ∧ IntsAt w.heap.size w' A (n * 3) f ∧ Below w.heap.size w w'

theorem l1In_any (x a b : Int) (w : World) : Calls Try.prog 40 #[.int .i64 x, .int .i64 a, .int .i64 b] w fun e w' => e = .returned (.bool (decide (a ≤ x) && decide (x ≤ b))) ∧ w' = w := by
  go_enter Try.func40, Try.ntmps40
  by_cases h1 : a ≤ x
  · have d1 : decide (a ≤ x) = true := decide_eq_true h1
    go_wp2_with fail
    go_ret
    exact ⟨by first | rfl | (rw [d1, Bool.true_and]; rfl), rfl⟩
  · have d1 : decide (a ≤ x) = false := decide_eq_false h1
    go_wp2_with fail
    go_ret
    exact ⟨by first | rfl | (rw [d1, Bool.false_and]; rfl), rfl⟩

theorem isIndex_any (x n : Int) (w : World) : Calls Try.prog 46 #[.int .i64 x, .int .i64 n] w fun e w' => e = .returned (.bool (decide (0 ≤ x) && decide (x < n))) ∧ w' = w := by
  go_enter Try.func46, Try.ntmps46
  by_cases h1 : 0 ≤ x
  · have d1 : decide (0 ≤ x) = true := decide_eq_true h1
    go_wp2_with fail
    go_ret
    exact ⟨by first | rfl | (rw [d1, Bool.true_and]; rfl), rfl⟩
  · have d1 : decide (0 ≤ x) = false := decide_eq_false h1
    go_wp2_with fail
    go_ret
    exact ⟨by first | rfl | (rw [d1, Bool.false_and]; rfl), rfl⟩

theorem areLevels_any (x : Int) (w : World) : Calls Try.prog 63 #[.int .i64 x] w fun e w' => e = .returned (.bool (decide (0 ≤ x) && decide (x ≤ 10))) ∧ w' = w := by
  go_enter Try.func63, Try.ntmps63
  go_wp2_with (go_at_call 46; refine (isIndex_any _ _ _).mono ?_; rintro e w1 ⟨rfl, rfl⟩)
  go_ret
  refine ⟨?_, rfl⟩
  rw [show decide (x ≤ 10) = decide (x < 11) from decide_eq_decide.2 (by omega)]
  rfl

/-- Levels and a level among them. -/
def VrOk (m v : Int) : Prop := 0 ≤ m ∧ m ≤ 10 ∧ 0 ≤ v ∧ v < m
instance (m v : Int) : Decidable (VrOk m v) := inferInstanceAs (Decidable (_ ∧ _))
def vrL (m v : Int) : Int := if VrOk m v then m else 0
def vrR (m v : Int) : Int := if VrOk m v then 2 else 0
def vrN (m v : Int) : Nat := if VrOk m v then 1 else 0
def vrF (_ v : Int) (j : Nat) : Int := if j = 0 then v else if j = 1 then 0 else 1
def vrB (m v : Int) : Bool := decide (VrOk m v)
theorem vrN_le (m v : Int) : vrN m v ≤ 1048576 := by unfold vrN; split <;> omega

set_option maxRecDepth 100000 in
theorem implVr_any (m v : Int) (w : World) : Calls Try.prog 36 #[.int .i64 m, .int .i64 v] w (DgPost (vrL m v) (vrR m v) (vrN m v) (vrF m v) (vrB m v) w) := by
  have C1 : Hid (∀ W, _) := Lib.hid fun W => areLevels_any m W
  have C2 : Hid (∀ W, _) := Lib.hid fun W => isIndex_any v m W
  by_cases h : VrOk m v
  · obtain ⟨h1, h2, h3, h4⟩ := h
    have hk : VrOk m v := ⟨h1, h2, h3, h4⟩
    rw [decide_eq_true h1, decide_eq_true h2] at C1
    rw [decide_eq_true h3, decide_eq_true h4] at C2
    unfold DgPost vrL vrR vrN vrB
    rw [if_pos hk, if_pos hk, if_pos hk, decide_eq_true hk]
    clear hk
    go_enter Try.func36, Try.ntmps36
    go_wp2_with (first
      | (go_at_call 63; refine (C1.out _).mono ?_; rintro e w1 ⟨rfl, rfl⟩)
      | (go_at_call 46; refine (C2.out _).mono ?_; rintro e w1 ⟨rfl, rfl⟩))
    have hA := (Box.new w 28 #[.int .i64 m, .slice (some ⟨w.heap.size + 1, 0, none⟩) 1 1, .int .i64 2]).alloc (.cells #[.int .i64 v, .int .i64 0, .int .i64 1] 86)
    have hI := Box.new (w.alloc (.cells #[.int .i64 m, .slice (some ⟨w.heap.size + 1, 0, none⟩) 1 1, .int .i64 2] 28)) 86 #[.int .i64 v, .int .i64 0, .int .i64 1]
    rw [show (w.alloc (.cells #[.int .i64 m, .slice (some ⟨w.heap.size + 1, 0, none⟩) 1 1, .int .i64 2] 28)).heap.size = w.heap.size + 1 by simp] at hI
    obtain ⟨k0, k1, k2⟩ := hA.trio
    refine bodyPost_ret (v := .tuple #[dgV m (some ⟨w.heap.size + 1, 0, none⟩) 1 1 2, .bool true]) (by simp [results, Try.results36, go_sem, k0, k1, k2]; done) rfl ⟨_, _, rfl, ?_, ((Below.refl _ w).alloc (Nat.le_refl _) _).alloc (by simp) _⟩
    refine IntsAt.of_box (by omega) hI fun j hj => ?_
    have : j = 0 ∨ j = 1 ∨ j = 2 := by omega
    rcases this with rfl | rfl | rfl <;> rfl
  · unfold DgPost vrL vrR vrN vrB
    rw [if_neg h, if_neg h, if_neg h, decide_eq_false h]
    unfold VrOk at h
    cases e1 : (decide (0 ≤ m) && decide (m ≤ 10)) with
    | false =>
      rw [e1] at C1
      clear h e1
      go_enter Try.func36, Try.ntmps36
      go_wp2_with (first
        | (go_at_call 63; refine (C1.out _).mono ?_; rintro e w1 ⟨rfl, rfl⟩)
        | (go_at_call 46; refine (C2.out _).mono ?_; rintro e w1 ⟨rfl, rfl⟩))
      have hA := Box.new w 28 #[.int .i64 0, .slice none 0 0, .int .i64 0]
      obtain ⟨k0, k1, k2⟩ := hA.trio
      refine bodyPost_ret (v := .tuple #[dgV 0 none 0 0 0, .bool false]) (by simp [results, Try.results36, go_sem, k0, k1, k2]; done) rfl ⟨_, _, rfl, fun h0 => absurd h0 (by omega), (Below.refl _ w).alloc (Nat.le_refl _) _⟩
    | true =>
      rw [e1] at C1
      have e2 : (decide (0 ≤ v) && decide (v < m)) = false := by
        simp only [Bool.and_eq_true, decide_eq_true_eq] at e1
        rw [← Bool.not_eq_true, Bool.and_eq_true, decide_eq_true_eq, decide_eq_true_eq]
        exact fun h' => h ⟨e1.1, e1.2, h'.1, h'.2⟩
      rw [e2] at C2
      clear h e1 e2
      go_enter Try.func36, Try.ntmps36
      go_wp2_with (first
        | (go_at_call 63; refine (C1.out _).mono ?_; rintro e w1 ⟨rfl, rfl⟩)
        | (go_at_call 46; refine (C2.out _).mono ?_; rintro e w1 ⟨rfl, rfl⟩))
      have hA := Box.new w 28 #[.int .i64 0, .slice none 0 0, .int .i64 0]
      obtain ⟨k0, k1, k2⟩ := hA.trio
      refine bodyPost_ret (v := .tuple #[dgV 0 none 0 0 0, .bool false]) (by simp [results, Try.results36, go_sem, k0, k1, k2]; done) rfl ⟨_, _, rfl, fun h0 => absurd h0 (by omega), (Below.refl _ w).alloc (Nat.le_refl _) _⟩

set_option maxRecDepth 100000 in
theorem specVr_any (m v : Int) (w : World) : Calls Try.prog 37 #[.int .i64 m, .int .i64 v] w (DgPost (vrL m v) (vrR m v) (vrN m v) (vrF m v) (vrB m v) w) := by
  have C1 : Hid (∀ W, _) := Lib.hid fun W => l1In_any m 0 10 W
  have C2 : Hid (∀ W, _) := Lib.hid fun W => l1In_any v 0 (m - 1) W
  by_cases h : VrOk m v
  · obtain ⟨h1, h2, h3, h4⟩ := h
    have hk : VrOk m v := ⟨h1, h2, h3, h4⟩
    rw [decide_eq_true h1, decide_eq_true h2] at C1
    rw [decide_eq_true h3, decide_eq_true (show v ≤ m - 1 by omega)] at C2
    have ew : IntKind.i64.wrap (m - 1) = m - 1 := IntWalk.i64_in _ (by omega)
    unfold DgPost vrL vrR vrN vrB
    rw [if_pos hk, if_pos hk, if_pos hk, decide_eq_true hk]
    clear hk
    go_enter Try.func37, Try.ntmps37
    go_wp2_with (first
      | (go_at_call 40; with_reducible refine (C1.out _).mono ?_; rintro e w1 ⟨rfl, rfl⟩)
      | (go_at_call 40; with_reducible refine (C2.out _).mono ?_; rintro e w1 ⟨rfl, rfl⟩))
    have hA := (Box.new w 28 #[.int .i64 m, .slice (some ⟨w.heap.size + 1, 0, none⟩) 1 1, .int .i64 2]).alloc (.cells #[.int .i64 v, .int .i64 0, .int .i64 1] 86)
    have hI := Box.new (w.alloc (.cells #[.int .i64 m, .slice (some ⟨w.heap.size + 1, 0, none⟩) 1 1, .int .i64 2] 28)) 86 #[.int .i64 v, .int .i64 0, .int .i64 1]
    rw [show (w.alloc (.cells #[.int .i64 m, .slice (some ⟨w.heap.size + 1, 0, none⟩) 1 1, .int .i64 2] 28)).heap.size = w.heap.size + 1 by simp] at hI
    obtain ⟨k0, k1, k2⟩ := hA.trio
    refine bodyPost_ret (v := .tuple #[dgV m (some ⟨w.heap.size + 1, 0, none⟩) 1 1 2, .bool true]) (by simp [results, Try.results37, go_sem, k0, k1, k2]; done) rfl ⟨_, _, rfl, ?_, ((Below.refl _ w).alloc (Nat.le_refl _) _).alloc (by simp) _⟩
    refine IntsAt.of_box (by omega) hI fun j hj => ?_
    have : j = 0 ∨ j = 1 ∨ j = 2 := by omega
    rcases this with rfl | rfl | rfl <;> rfl
  · unfold DgPost vrL vrR vrN vrB
    rw [if_neg h, if_neg h, if_neg h, decide_eq_false h]
    unfold VrOk at h
    cases e1 : (decide (0 ≤ m) && decide (m ≤ 10)) with
    | false =>
      rw [e1] at C1
      clear h e1
      go_enter Try.func37, Try.ntmps37
      go_wp2_with (go_at_call 40; with_reducible refine (C1.out _).mono ?_; rintro e w1 ⟨rfl, rfl⟩)
      have hA := Box.new w 28 #[.int .i64 0, .slice none 0 0, .int .i64 0]
      obtain ⟨k0, k1, k2⟩ := hA.trio
      refine bodyPost_ret (v := .tuple #[dgV 0 none 0 0 0, .bool false]) (by simp [results, Try.results37, go_sem, k0, k1, k2]; done) rfl ⟨_, _, rfl, fun h0 => absurd h0 (by omega), (Below.refl _ w).alloc (Nat.le_refl _) _⟩
    | true =>
      rw [e1] at C1
      simp only [Bool.and_eq_true, decide_eq_true_eq] at e1
      have ew : IntKind.i64.wrap (m - 1) = m - 1 := IntWalk.i64_in _ (by omega)
      have e2 : (decide (0 ≤ v) && decide (v ≤ m - 1)) = false := by
        rw [← Bool.not_eq_true, Bool.and_eq_true, decide_eq_true_eq, decide_eq_true_eq]
        exact fun h' => h ⟨e1.1, e1.2, h'.1, by omega⟩
      rw [e2] at C2
      clear h e1 e2
      go_enter Try.func37, Try.ntmps37
      go_wp2_with (first
        | (go_at_call 40; with_reducible refine (C1.out _).mono ?_; rintro e w1 ⟨rfl, rfl⟩)
        | (go_at_call 40; with_reducible refine (C2.out _).mono ?_; rintro e w1 ⟨rfl, rfl⟩))
      have hA := Box.new w 28 #[.int .i64 0, .slice none 0 0, .int .i64 0]
      obtain ⟨k0, k1, k2⟩ := hA.trio
      refine bodyPost_ret (v := .tuple #[dgV 0 none 0 0 0, .bool false]) (by simp [results, Try.results37, go_sem, k0, k1, k2]; done) rfl ⟨_, _, rfl, fun h0 => absurd h0 (by omega), (Below.refl _ w).alloc (Nat.le_refl _) _⟩

def CoOk (m : Int) : Prop := 0 ≤ m ∧ m ≤ 10
instance (m : Int) : Decidable (CoOk m) := inferInstanceAs (Decidable (_ ∧ _))
def coL (m : Int) (_ : Bool) : Int := if CoOk m then m else 0
def coR (m : Int) (b : Bool) : Int := if CoOk m then (if b then 1 else 0) else 0
def coN (_ : Int) (_ : Bool) : Nat := 0
def coF (_ : Int) (_ : Bool) (_ : Nat) : Int := 0
def coB (m : Int) (_ : Bool) : Bool := decide (CoOk m)
theorem coN_le (m : Int) (b : Bool) : coN m b ≤ 1048576 := Nat.zero_le _

theorem truth_any (b : Bool) (w : World) : Calls Try.prog 64 #[.bool b] w fun e w' => e = .returned (.int .i64 (if b then 1 else 0)) ∧ w' = w := by
  cases b
  all_goals
    go_enter Try.func64, Try.ntmps64
    go_wp2_with fail
    go_ret
    exact ⟨rfl, rfl⟩

theorem truth_true (w : World) : Calls Try.prog 64 #[.bool true] w fun e w' => e = .returned (.int .i64 1) ∧ w' = w := truth_any true w
theorem truth_false (w : World) : Calls Try.prog 64 #[.bool false] w fun e w' => e = .returned (.int .i64 0) ∧ w' = w := truth_any false w

set_option maxRecDepth 100000 in
theorem implCo_any (m : Int) (b : Bool) (w : World) : Calls Try.prog 33 #[.int .i64 m, .bool b] w (DgPost (coL m b) (coR m b) (coN m b) (coF m b) (coB m b) w) := by
  have C1 : Hid (∀ W, _) := Lib.hid fun W => areLevels_any m W
  by_cases h : CoOk m
  · rw [decide_eq_true h.1, decide_eq_true h.2] at C1
    have HK := Lib.hid h
    clear h
    cases b
    case false =>
      have CT : Hid (∀ W, _) := Lib.hid fun W => truth_false W
      go_enter Try.func33, Try.ntmps33
      go_wp2_with (first
        | (go_at_call 63; refine (C1.out _).mono ?_; rintro e w1 ⟨rfl, rfl⟩)
        | (go_at_call 64; refine (CT.out _).mono ?_; rintro e w1 ⟨rfl, rfl⟩))
      have hA := Box.new w 28 #[.int .i64 m, .slice none 0 0, .int .i64 0]
      obtain ⟨k0, k1, k2⟩ := hA.trio
      refine bodyPost_ret (v := .tuple #[dgV m none 0 0 0, .bool true]) (by simp [results, Try.results33, go_sem, k0, k1, k2]; done) rfl ?_
      have hR : DgPost m 0 0 (coF m false) true w (.returned (.tuple #[dgV m none 0 0 0, .bool true])) _ := ⟨none, 0, rfl, fun h0 => absurd h0 (by omega), (Below.refl _ w).alloc (Nat.le_refl _) (.cells #[.int .i64 m, .slice none 0 0, .int .i64 0] 28)⟩
      simpa only [coL, coR, coN, coB, if_pos HK.out, decide_eq_true HK.out, if_true, if_false, Bool.false_eq_true] using hR
    case true =>
      have CT : Hid (∀ W, _) := Lib.hid fun W => truth_true W
      go_enter Try.func33, Try.ntmps33
      go_wp2_with (first
        | (go_at_call 63; refine (C1.out _).mono ?_; rintro e w1 ⟨rfl, rfl⟩)
        | (go_at_call 64; refine (CT.out _).mono ?_; rintro e w1 ⟨rfl, rfl⟩))
      have hA := Box.new w 28 #[.int .i64 m, .slice none 0 0, .int .i64 1]
      obtain ⟨k0, k1, k2⟩ := hA.trio
      refine bodyPost_ret (v := .tuple #[dgV m none 0 0 1, .bool true]) (by simp [results, Try.results33, go_sem, k0, k1, k2]; done) rfl ?_
      have hR : DgPost m 1 0 (coF m true) true w (.returned (.tuple #[dgV m none 0 0 1, .bool true])) _ := ⟨none, 0, rfl, fun h0 => absurd h0 (by omega), (Below.refl _ w).alloc (Nat.le_refl _) (.cells #[.int .i64 m, .slice none 0 0, .int .i64 1] 28)⟩
      simpa only [coL, coR, coN, coB, if_pos HK.out, decide_eq_true HK.out, if_true, if_false, Bool.false_eq_true] using hR
  · have e1 : (decide (0 ≤ m) && decide (m ≤ 10)) = false := by
      rw [← Bool.not_eq_true, Bool.and_eq_true, decide_eq_true_eq, decide_eq_true_eq]
      exact h
    rw [e1] at C1
    have HK := Lib.hid h
    clear h e1
    go_enter Try.func33, Try.ntmps33
    go_wp2_with (go_at_call 63; refine (C1.out _).mono ?_; rintro e w1 ⟨rfl, rfl⟩)
    have hA := Box.new w 28 #[.int .i64 0, .slice none 0 0, .int .i64 0]
    obtain ⟨k0, k1, k2⟩ := hA.trio
    refine bodyPost_ret (v := .tuple #[dgV 0 none 0 0 0, .bool false]) (by simp [results, Try.results33, go_sem, k0, k1, k2]; done) rfl ?_
    have hR : DgPost 0 0 0 (coF m b) false w (.returned (.tuple #[dgV 0 none 0 0 0, .bool false])) _ := ⟨none, 0, rfl, fun h0 => absurd h0 (by omega), (Below.refl _ w).alloc (Nat.le_refl _) (.cells #[.int .i64 0, .slice none 0 0, .int .i64 0] 28)⟩
    simpa only [coL, coR, coN, coB, if_neg HK.out, decide_eq_false HK.out] using hR

set_option maxRecDepth 100000 in
theorem specCo_any (m : Int) (b : Bool) (w : World) : Calls Try.prog 34 #[.int .i64 m, .bool b] w (DgPost (coL m b) (coR m b) (coN m b) (coF m b) (coB m b) w) := by
  have C1 : Hid (∀ W, _) := Lib.hid fun W => l1In_any m 0 10 W
  by_cases h : CoOk m
  · rw [decide_eq_true h.1, decide_eq_true h.2] at C1
    have HK := Lib.hid h
    clear h
    cases b
    case false =>
      go_enter Try.func34, Try.ntmps34
      go_wp2_with (go_at_call 40; refine (C1.out _).mono ?_; rintro e w1 ⟨rfl, rfl⟩)
      have hA := Box.new w 28 #[.int .i64 m, .slice none 0 0, .int .i64 0]
      obtain ⟨k0, k1, k2⟩ := hA.trio
      refine bodyPost_ret (v := .tuple #[dgV m none 0 0 0, .bool true]) (by simp [results, Try.results34, go_sem, k0, k1, k2]; done) rfl ?_
      have hR : DgPost m 0 0 (coF m false) true w (.returned (.tuple #[dgV m none 0 0 0, .bool true])) _ := ⟨none, 0, rfl, fun h0 => absurd h0 (by omega), (Below.refl _ w).alloc (Nat.le_refl _) (.cells #[.int .i64 m, .slice none 0 0, .int .i64 0] 28)⟩
      simpa only [coL, coR, coN, coB, if_pos HK.out, decide_eq_true HK.out, if_true, if_false, Bool.false_eq_true] using hR
    case true =>
      go_enter Try.func34, Try.ntmps34
      go_wp2_with (go_at_call 40; refine (C1.out _).mono ?_; rintro e w1 ⟨rfl, rfl⟩)
      have hA := Box.new w 28 #[.int .i64 m, .slice none 0 0, .int .i64 1]
      obtain ⟨k0, k1, k2⟩ := hA.trio
      refine bodyPost_ret (v := .tuple #[dgV m none 0 0 1, .bool true]) (by simp [results, Try.results34, go_sem, k0, k1, k2]; done) rfl ?_
      have hR : DgPost m 1 0 (coF m true) true w (.returned (.tuple #[dgV m none 0 0 1, .bool true])) _ := ⟨none, 0, rfl, fun h0 => absurd h0 (by omega), (Below.refl _ w).alloc (Nat.le_refl _) (.cells #[.int .i64 m, .slice none 0 0, .int .i64 1] 28)⟩
      simpa only [coL, coR, coN, coB, if_pos HK.out, decide_eq_true HK.out, if_true, if_false, Bool.false_eq_true] using hR
  · have e1 : (decide (0 ≤ m) && decide (m ≤ 10)) = false := by
      rw [← Bool.not_eq_true, Bool.and_eq_true, decide_eq_true_eq, decide_eq_true_eq]
      exact h
    rw [e1] at C1
    have HK := Lib.hid h
    clear h e1
    go_enter Try.func34, Try.ntmps34
    go_wp2_with (go_at_call 40; refine (C1.out _).mono ?_; rintro e w1 ⟨rfl, rfl⟩)
    have hA := Box.new w 28 #[.int .i64 0, .slice none 0 0, .int .i64 0]
    obtain ⟨k0, k1, k2⟩ := hA.trio
    refine bodyPost_ret (v := .tuple #[dgV 0 none 0 0 0, .bool false]) (by simp [results, Try.results34, go_sem, k0, k1, k2]; done) rfl ?_
    have hR : DgPost 0 0 0 (coF m b) false w (.returned (.tuple #[dgV 0 none 0 0 0, .bool false])) _ := ⟨none, 0, rfl, fun h0 => absurd h0 (by omega), (Below.refl _ w).alloc (Nat.le_refl _) (.cells #[.int .i64 0, .slice none 0 0, .int .i64 0] 28)⟩
    simpa only [coL, coR, coN, coB, if_neg HK.out, decide_eq_false HK.out] using hR

end Go.Proofs.Ytamjfcckgeakfaa
