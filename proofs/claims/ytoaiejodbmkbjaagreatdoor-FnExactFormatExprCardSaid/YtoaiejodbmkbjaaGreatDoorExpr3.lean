/-
  Expressions: the model's and the program's test whether one expression is valid.
-/
import Derived.Test.YtoaiejodbmkbjaaGreatDoorName3
namespace Go.Proofs.YtoaiejodbmkbjaaGreatDoor
open Go.RowKit Num

/-- Whether an expression is valid as the one with index k, for n variables. -/
def exOk (op a b v : Int) (k n : Nat) : Bool :=
  if op = 1 then decide (a = 0 ∧ b = 0 ∧ 0 ≤ v ∧ v < 21)
  else if op = 2 then decide (a = 0 ∧ b = 0 ∧ 0 ≤ v ∧ v < n)
  else if op = 10 then decide ((0 ≤ a ∧ a < k) ∧ b = 0 ∧ v = 0)
  else decide ((3 ≤ op ∧ op ≤ 9) ∧ (0 ≤ a ∧ a < k) ∧ (0 ≤ b ∧ b < k) ∧ v = 0)

theorem idx_any (i n : Int) (w : World) :
    Calls Tryz.prog 24 #[.int .i64 i, .int .i64 n] w fun e w' => e = .returned (.bool (decide (0 ≤ i ∧ i < n))) ∧ w = w' := by
  by_cases h1 : 0 ≤ i
  · have e : decide (0 ≤ i ∧ i < n) = decide (i < n) := by simp [h1]
    rw [e]
    go_enter Tryz.func24, Tryz.ntmps24
    go_wp2_with fail
    all_goals first
      | (go_ret; exact ⟨rfl, rfl⟩)
      | (exfalso; omega)
  · have e : decide (0 ≤ i ∧ i < n) = false := by simp [h1]
    rw [e]
    go_enter Tryz.func24, Tryz.ntmps24
    go_wp2_with fail
    all_goals first
      | (go_ret; exact ⟨rfl, rfl⟩)
      | (exfalso; omega)

theorem ret_bool {a b : Bool} (h : a = b) : Ending.returned (.bool a) = .returned (.bool b) := by rw [h]

set_option maxRecDepth 100000 in
set_option maxHeartbeats 3200000 in
theorem specEx_any (op a b v : Int) (k n : Nat) (w : World) (hk : k ≤ 1000) (hn : n ≤ 1000) :
    Calls Tryz.prog 59 #[.agg #[.int .i64 op, .int .i64 a, .int .i64 b, .int .i64 v], .int .i64 (k : Int), .int .i64 (n : Int)] w fun e w' => e = .returned (.bool (exOk op a b v k n)) ∧ Below w.heap.size w w' := by
  have hbox := Box.new w 80 #[.int .i64 op, .int .i64 a, .int .i64 b, .int .i64 v]
  have q0 := hbox.cell 0
  have q1 := hbox.cell 1
  have q2 := hbox.cell 2
  have q3 := hbox.cell 3
  have hB := (Below.refl w.heap.size w).alloc (Nat.le_refl _) (.cells #[.int .i64 op, .int .i64 a, .int .i64 b, .int .i64 v] 80)
  have wk : IntKind.i64.wrap ((k : Int) - 1) = (k : Int) - 1 := IntWalk.i64_in _ (by omega)
  have wn : IntKind.i64.wrap ((n : Int) - 1) = (n : Int) - 1 := IntWalk.i64_in _ (by omega)
  obtain ⟨r, hr⟩ : ∃ r, r = exOk op a b v k n := ⟨_, rfl⟩
  rw [← hr]
  have Hr := Lib.hid hr; clear hr
  have ha : (a == 0) = true ∨ (a == 0) = false := by cases (a == 0) <;> simp
  have hb : (b == 0) = true ∨ (b == 0) = false := by cases (b == 0) <;> simp
  by_cases o1 : op = 1
  · subst o1
    rcases ha with ha | ha <;> rcases hb with hb | hb
    all_goals go_enter Tryz.func59, Tryz.ntmps59
    all_goals go_wp2_with (go_at_call 15; refine (in3_any _ _ _ _).mono ?_; rintro e w' ⟨rfl, rfl⟩)
    all_goals (go_ret; refine ⟨ret_bool ?_, hB⟩; rw [Hr.out]; clear Hr; simp only [beq_iff_eq, beq_eq_false_iff_ne] at ha hb; rw [exOk, Bool.eq_iff_iff]; simp; omega)
  · by_cases o2 : op = 2
    · subst o2
      rcases ha with ha | ha <;> rcases hb with hb | hb
      all_goals go_enter Tryz.func59, Tryz.ntmps59
      all_goals go_wp2_with (go_at_call 15; refine (in3_any _ _ _ _).mono ?_; rintro e w' ⟨rfl, rfl⟩)
      all_goals (go_ret; refine ⟨ret_bool ?_, hB⟩; rw [Hr.out]; clear Hr; simp only [beq_iff_eq, beq_eq_false_iff_ne] at ha hb; rw [exOk, Bool.eq_iff_iff]; simp; omega)
    · by_cases o10 : op = 10
      · subst o10
        by_cases hin : 0 ≤ a ∧ a ≤ (k : Int) - 1
        all_goals rcases hb with hb | hb
        all_goals go_enter Tryz.func59, Tryz.ntmps59
        all_goals go_wp2_with (go_at_call 15; refine (in3_any _ _ _ _).mono ?_; rintro e w' ⟨rfl, rfl⟩)
        all_goals (go_ret; refine ⟨ret_bool ?_, hB⟩; rw [Hr.out]; clear Hr; simp only [beq_iff_eq, beq_eq_false_iff_ne] at ha hb; rw [exOk, Bool.eq_iff_iff]; simp; omega)
      · have n1 : (op == 1) = false := by simpa using o1
        have n2 : (op == 2) = false := by simpa using o2
        have n10 : (op == 10) = false := by simpa using o10
        have hv : r = decide ((3 ≤ op ∧ op ≤ 9) ∧ (0 ≤ a ∧ a < k) ∧ (0 ≤ b ∧ b < k) ∧ v = 0) := by rw [Hr.out, exOk, if_neg o1, if_neg o2, if_neg o10]
        clear Hr
        have Hr := Lib.hid hv; clear hv
        clear ha hb
        by_cases h3 : 3 ≤ op ∧ op ≤ 9
        all_goals by_cases hin : 0 ≤ a ∧ a ≤ (k : Int) - 1
        all_goals by_cases hin2 : 0 ≤ b ∧ b ≤ (k : Int) - 1
        all_goals go_enter Tryz.func59, Tryz.ntmps59
        all_goals go_wp2_with (go_at_call 15; refine (in3_any _ _ _ _).mono ?_; rintro e w' ⟨rfl, rfl⟩)
        all_goals (go_ret; refine ⟨ret_bool ?_, hB⟩; rw [Hr.out]; clear Hr; rw [Bool.eq_iff_iff]; simp; omega)

set_option maxRecDepth 100000 in
set_option maxHeartbeats 3200000 in
theorem implEx_any (op a b v : Int) (k n : Nat) (w : World) (_hk : k ≤ 1000) (_hn : n ≤ 1000) :
    Calls Tryz.prog 66 #[.agg #[.int .i64 op, .int .i64 a, .int .i64 b, .int .i64 v], .int .i64 (k : Int), .int .i64 (n : Int)] w fun e w' => e = .returned (.bool (exOk op a b v k n)) ∧ Below w.heap.size w w' := by
  have hbox := Box.new w 80 #[.int .i64 op, .int .i64 a, .int .i64 b, .int .i64 v]
  have q0 := hbox.cell 0
  have q1 := hbox.cell 1
  have q2 := hbox.cell 2
  have q3 := hbox.cell 3
  have hB := (Below.refl w.heap.size w).alloc (Nat.le_refl _) (.cells #[.int .i64 op, .int .i64 a, .int .i64 b, .int .i64 v] 80)
  obtain ⟨r, hr⟩ : ∃ r, r = exOk op a b v k n := ⟨_, rfl⟩
  rw [← hr]
  have Hr := Lib.hid hr; clear hr
  have ha : (a == 0) = true ∨ (a == 0) = false := by cases (a == 0) <;> simp
  have hb : (b == 0) = true ∨ (b == 0) = false := by cases (b == 0) <;> simp
  by_cases o1 : op = 1
  · subst o1
    rcases ha with ha | ha <;> rcases hb with hb | hb
    all_goals go_enter Tryz.func66, Tryz.ntmps66
    all_goals go_wp2_with (go_at_call 24; refine (idx_any _ _ _).mono ?_; rintro e w' ⟨rfl, rfl⟩)
    all_goals (go_ret; refine ⟨ret_bool ?_, hB⟩; rw [Hr.out]; clear Hr; simp only [beq_iff_eq, beq_eq_false_iff_ne] at ha hb; rw [exOk, Bool.eq_iff_iff]; simp; omega)
  · by_cases o2 : op = 2
    · subst o2
      rcases ha with ha | ha <;> rcases hb with hb | hb
      all_goals go_enter Tryz.func66, Tryz.ntmps66
      all_goals go_wp2_with (go_at_call 24; refine (idx_any _ _ _).mono ?_; rintro e w' ⟨rfl, rfl⟩)
      all_goals (go_ret; refine ⟨ret_bool ?_, hB⟩; rw [Hr.out]; clear Hr; simp only [beq_iff_eq, beq_eq_false_iff_ne] at ha hb; rw [exOk, Bool.eq_iff_iff]; simp; omega)
    · by_cases o10 : op = 10
      · subst o10
        by_cases hin : 0 ≤ a ∧ a < (k : Int)
        all_goals rcases hb with hb | hb
        all_goals go_enter Tryz.func66, Tryz.ntmps66
        all_goals go_wp2_with (go_at_call 24; refine (idx_any _ _ _).mono ?_; rintro e w' ⟨rfl, rfl⟩)
        all_goals (go_ret; refine ⟨ret_bool ?_, hB⟩; rw [Hr.out]; clear Hr; simp only [beq_iff_eq, beq_eq_false_iff_ne] at ha hb; rw [exOk, Bool.eq_iff_iff]; simp; omega)
      · have n1 : (op == 1) = false := by simpa using o1
        have n2 : (op == 2) = false := by simpa using o2
        have n10 : (op == 10) = false := by simpa using o10
        have hv : r = decide ((3 ≤ op ∧ op ≤ 9) ∧ (0 ≤ a ∧ a < k) ∧ (0 ≤ b ∧ b < k) ∧ v = 0) := by rw [Hr.out, exOk, if_neg o1, if_neg o2, if_neg o10]
        clear Hr
        have Hr := Lib.hid hv; clear hv
        clear ha hb
        by_cases hin : 0 ≤ a ∧ a < (k : Int)
        all_goals by_cases hin2 : 0 ≤ b ∧ b < (k : Int)
        all_goals go_enter Tryz.func66, Tryz.ntmps66
        all_goals go_wp2_with (go_at_call 24; refine (idx_any _ _ _).mono ?_; rintro e w' ⟨rfl, rfl⟩)
        all_goals (go_ret; refine ⟨ret_bool ?_, hB⟩; rw [Hr.out]; clear Hr; simp only [beq_iff_eq, beq_eq_false_iff_ne] at *; rw [Bool.eq_iff_iff]; simp; omega)

end Go.Proofs.YtoaiejodbmkbjaaGreatDoor
