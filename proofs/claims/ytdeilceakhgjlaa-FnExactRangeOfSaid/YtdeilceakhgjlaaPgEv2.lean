/-
  The operators of expressions: the model's and the program's.
-/
import Derived.Test.YtdeilceakhgjlaaPgEv1
namespace Go.Proofs.Ytdeilceakhgjlaa
open Go.RowKit Num

def tr (p : Bool) : Int := if p then 1 else 0

/-- What an operator makes of its operands. -/
def opV (op a b : Int) : Int :=
  if op = 3 then min (a + b) 20 else if op = 4 then max (a - b) 0 else if op = 5 then min (a * b) 20 else if op = 6 then tr (a == b) else if op = 7 then tr (decide (a < b))
  else if op = 8 then tr (a != 0 && b != 0) else if op = 9 then tr (a != 0 || b != 0) else tr (a == 0)

theorem truth_any (p : Bool) (w : World) : Calls Try.prog 103 #[.bool p] w fun e w' => e = .returned (.int .i64 (tr p)) ∧ w = w' := by
  cases p
  all_goals go_enter Try.func103, Try.ntmps103
  all_goals go_wp2_with fail
  all_goals go_ret
  all_goals exact ⟨rfl, rfl⟩
theorem bool3_any (p : Bool) (w : World) : Calls Try.prog 114 #[.bool p] w fun e w' => e = .returned (.int .i64 (tr p)) ∧ w = w' := by
  cases p
  all_goals go_enter Try.func114, Try.ntmps114
  all_goals go_wp2_with fail
  all_goals go_ret
  all_goals exact ⟨rfl, rfl⟩
theorem least_any (a b : Int) (w : World) : Calls Try.prog 91 #[.int .i64 a, .int .i64 b] w fun e w' => e = .returned (.int .i64 (min a b)) ∧ w = w' := by
  by_cases h : a < b
  · have hd : decide (a < b) = true := decide_eq_true h
    have hm : min a b = a := by omega
    rw [hm]
    go_enter Try.func91, Try.ntmps91
    go_wp2_with fail
    go_ret
    exact ⟨rfl, rfl⟩
  · have hd : decide (a < b) = false := decide_eq_false h
    have hm : min a b = b := by omega
    rw [hm]
    go_enter Try.func91, Try.ntmps91
    go_wp2_with fail
    go_ret
    exact ⟨rfl, rfl⟩
theorem most3_any (a b : Int) (w : World) : Calls Try.prog 85 #[.int .i64 a, .int .i64 b] w fun e w' => e = .returned (.int .i64 (max a b)) ∧ w = w' := by
  by_cases h : a > b
  · have hd : decide (b < a) = true := decide_eq_true h
    have hm : max a b = a := by omega
    rw [hm]
    go_enter Try.func85, Try.ntmps85
    go_wp2_with fail
    go_ret
    exact ⟨rfl, rfl⟩
  · have hd : decide (b < a) = false := decide_eq_false h
    have hm : max a b = b := by omega
    rw [hm]
    go_enter Try.func85, Try.ntmps85
    go_wp2_with fail
    go_ret
    exact ⟨rfl, rfl⟩

theorem opV_small {op a b : Int} (ha : 0 ≤ a) (hb : 0 ≤ b) : 0 ≤ opV op a b ∧ opV op a b ≤ 20 ∨ op = 4 := by
  have hm : 0 ≤ a * b := Int.mul_nonneg ha hb
  have ht : ∀ p, 0 ≤ tr p ∧ tr p ≤ 20 := fun p => by cases p <;> decide
  unfold opV
  by_cases h4 : op = 4
  · exact .inr h4
  · left
    repeat' split
    all_goals first
      | exact ht _
      | omega

set_option maxRecDepth 100000 in
set_option maxHeartbeats 3200000 in
theorem implOp_any (op a b : Int) (w : World) (ho : 3 ≤ op ∧ op ≤ 10) (ha : 0 ≤ a ∧ a ≤ 20) (hb : 0 ≤ b ∧ b ≤ 20) :
    Calls Try.prog 104 #[.int .i64 op, .int .i64 a, .int .i64 b] w fun e w' => e = .returned (.int .i64 (opV op a b)) ∧ w = w' := by
  have hm0 : 0 ≤ a * b := Int.mul_nonneg ha.1 hb.1
  have hm1 : a * b ≤ 20 * 20 := Int.mul_le_mul ha.2 hb.2 hb.1 (by omega)
  have w1 : IntKind.i64.wrap (a + b) = a + b := IntWalk.i64_in _ (by omega)
  have w2 : IntKind.i64.wrap (a - b) = a - b := IntWalk.i64_in _ (by omega)
  have w3 : IntKind.i64.wrap (a * b) = a * b := IntWalk.i64_in _ (by omega)
  clear hm0 hm1
  have hc : op = 3 ∨ op = 4 ∨ op = 5 ∨ op = 6 ∨ op = 7 ∨ op = 8 ∨ op = 9 ∨ op = 10 := by omega
  clear ho ha hb
  have CT : Hid (∀ p W, _) := Lib.hid fun p W => truth_any p W
  rcases hc with rfl | rfl | rfl | rfl | rfl | rfl | rfl | rfl
  case inr.inr.inr.inr.inr.inl =>
    cases ha : (a != 0) with
    | false =>
      have hv : opV 8 a b = tr false := by simp [opV, ha]
      rw [hv]
      go_enter Try.func104, Try.ntmps104
      go_wp2_with (go_at_call 103; refine (CT.out _ _).mono ?_; rintro e w' ⟨rfl, rfl⟩)
      go_ret
      exact ⟨rfl, rfl⟩
    | true =>
      have hv : opV 8 a b = tr (b != 0) := by simp [opV, ha]
      rw [hv]
      go_enter Try.func104, Try.ntmps104
      go_wp2_with (go_at_call 103; refine (CT.out _ _).mono ?_; rintro e w' ⟨rfl, rfl⟩)
      go_ret
      exact ⟨rfl, rfl⟩
  case inr.inr.inr.inr.inr.inr.inl =>
    cases ha : (a != 0) with
    | false =>
      have hv : opV 9 a b = tr (b != 0) := by simp [opV, ha]
      rw [hv]
      go_enter Try.func104, Try.ntmps104
      go_wp2_with (go_at_call 103; refine (CT.out _ _).mono ?_; rintro e w' ⟨rfl, rfl⟩)
      go_ret
      exact ⟨rfl, rfl⟩
    | true =>
      have hv : opV 9 a b = tr true := by simp [opV, ha]
      rw [hv]
      go_enter Try.func104, Try.ntmps104
      go_wp2_with (go_at_call 103; refine (CT.out _ _).mono ?_; rintro e w' ⟨rfl, rfl⟩)
      go_ret
      exact ⟨rfl, rfl⟩
  all_goals go_enter Try.func104, Try.ntmps104
  all_goals go_wp2_with (go_at_call 103; refine (CT.out _ _).mono ?_; rintro e w' ⟨rfl, rfl⟩)
  all_goals go_ret
  all_goals first
    | exact ⟨rfl, rfl⟩
    | exact ⟨congrArg (fun z => Ending.returned (.int .i64 z)) (show _ = opV _ a b by simp only [opV]; simp; omega), rfl⟩

end Go.Proofs.Ytdeilceakhgjlaa
