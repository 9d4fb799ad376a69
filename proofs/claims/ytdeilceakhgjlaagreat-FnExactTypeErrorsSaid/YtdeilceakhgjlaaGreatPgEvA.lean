/-
  Several texts in one: PgEv1, PgEv2, PgEv3, PgEv4.
-/
import Derived.Test.YtdeilceakhgjlaaGreatPgVi
/-
  Values for a program's variables: the model's and the program's test that they fit.
-/
namespace Go.Proofs.YtdeilceakhgjlaaGreat
open Go.RowKit Num

/-- The values fit the variables. -/
def ValsOk (P : Prg) (n : Nat) (f : Nat → Int) : Prop := n = P.nv ∧ ∀ j, j < n → 0 ≤ f j ∧ f j < P.vz j

end Go.Proofs.YtdeilceakhgjlaaGreat
/-
  The operators of expressions: the model's and the program's.
-/
namespace Go.Proofs.YtdeilceakhgjlaaGreat
open Go.RowKit Num

def tr (p : Bool) : Int := if p then 1 else 0

/-- What an operator makes of its operands. -/
def opV (op a b : Int) : Int :=
  if op = 3 then min (a + b) 20 else if op = 4 then max (a - b) 0 else if op = 5 then min (a * b) 20 else if op = 6 then tr (a == b) else if op = 7 then tr (decide (a < b))
  else if op = 8 then tr (a != 0 && b != 0) else if op = 9 then tr (a != 0 || b != 0) else tr (a == 0)

theorem truth_any (p : Bool) (w : World) : Calls Tryz.prog 123 #[.bool p] w fun e w' => e = .returned (.int .i64 (tr p)) ∧ w = w' := by
  cases p
  all_goals go_enter Tryz.func123, Tryz.ntmps123
  all_goals go_wp2_with fail
  all_goals go_ret
  all_goals exact ⟨rfl, rfl⟩
theorem bool3_any (p : Bool) (w : World) : Calls Tryz.prog 204 #[.bool p] w fun e w' => e = .returned (.int .i64 (tr p)) ∧ w = w' := by
  cases p
  all_goals go_enter Tryz.func204, Tryz.ntmps204
  all_goals go_wp2_with fail
  all_goals go_ret
  all_goals exact ⟨rfl, rfl⟩
theorem least_any (a b : Int) (w : World) : Calls Tryz.prog 172 #[.int .i64 a, .int .i64 b] w fun e w' => e = .returned (.int .i64 (min a b)) ∧ w = w' := by
  by_cases h : a < b
  · have hd : decide (a < b) = true := decide_eq_true h
    have hm : min a b = a := by omega
    rw [hm]
    go_enter Tryz.func172, Tryz.ntmps172
    go_wp2_with fail
    go_ret
    exact ⟨rfl, rfl⟩
  · have hd : decide (a < b) = false := decide_eq_false h
    have hm : min a b = b := by omega
    rw [hm]
    go_enter Tryz.func172, Tryz.ntmps172
    go_wp2_with fail
    go_ret
    exact ⟨rfl, rfl⟩
theorem most3_any (a b : Int) (w : World) : Calls Tryz.prog 173 #[.int .i64 a, .int .i64 b] w fun e w' => e = .returned (.int .i64 (max a b)) ∧ w = w' := by
  by_cases h : a > b
  · have hd : decide (b < a) = true := decide_eq_true h
    have hm : max a b = a := by omega
    rw [hm]
    go_enter Tryz.func173, Tryz.ntmps173
    go_wp2_with fail
    go_ret
    exact ⟨rfl, rfl⟩
  · have hd : decide (b < a) = false := decide_eq_false h
    have hm : max a b = b := by omega
    rw [hm]
    go_enter Tryz.func173, Tryz.ntmps173
    go_wp2_with fail
    go_ret
    exact ⟨rfl, rfl⟩

theorem opV_small {op a b : Int} (ha : 0 ≤ a) (hb : 0 ≤ b) : 0 ≤ opV op a b ∧ opV op a b ≤ 20 ∨ op = 4 := by
  have hm : 0 ≤ a * b := Int.mul_nonneg ha hb
  have ht : ∀ p, 0 ≤ tr p ∧ tr p ≤ 20 := fun p => by cases p <;> decide
  unfold opV
  by_cases h4 : op = 4
  · exact .inr h4
  · left
    repeat' split
    all_goals first
      | exact ht _
      | omega

set_option maxRecDepth 100000 in
set_option maxHeartbeats 3200000 in
theorem implOp_any (op a b : Int) (w : World) (ho : 3 ≤ op ∧ op ≤ 10) (ha : 0 ≤ a ∧ a ≤ 20) (hb : 0 ≤ b ∧ b ≤ 20) :
    Calls Tryz.prog 186 #[.int .i64 op, .int .i64 a, .int .i64 b] w fun e w' => e = .returned (.int .i64 (opV op a b)) ∧ w = w' := by
  have hm0 : 0 ≤ a * b := Int.mul_nonneg ha.1 hb.1
  have hm1 : a * b ≤ 20 * 20 := Int.mul_le_mul ha.2 hb.2 hb.1 (by omega)
  have w1 : IntKind.i64.wrap (a + b) = a + b := IntWalk.i64_in _ (by omega)
  have w2 : IntKind.i64.wrap (a - b) = a - b := IntWalk.i64_in _ (by omega)
  have w3 : IntKind.i64.wrap (a * b) = a * b := IntWalk.i64_in _ (by omega)
  clear hm0 hm1
  have hc : op = 3 ∨ op = 4 ∨ op = 5 ∨ op = 6 ∨ op = 7 ∨ op = 8 ∨ op = 9 ∨ op = 10 := by omega
  clear ho ha hb
  have CT : Hid (∀ p W, _) := Lib.hid fun p W => truth_any p W
  rcases hc with rfl | rfl | rfl | rfl | rfl | rfl | rfl | rfl
  case inr.inr.inr.inr.inr.inl =>
    cases ha : (a != 0) with
    | false =>
      have hv : opV 8 a b = tr false := by simp [opV, ha]
      rw [hv]
      go_enter Tryz.func186, Tryz.ntmps186
      go_wp2_with (go_at_call 123; refine (CT.out _ _).mono ?_; rintro e w' ⟨rfl, rfl⟩)
      go_ret
      exact ⟨rfl, rfl⟩
    | true =>
      have hv : opV 8 a b = tr (b != 0) := by simp [opV, ha]
      rw [hv]
      go_enter Tryz.func186, Tryz.ntmps186
      go_wp2_with (go_at_call 123; refine (CT.out _ _).mono ?_; rintro e w' ⟨rfl, rfl⟩)
      go_ret
      exact ⟨rfl, rfl⟩
  case inr.inr.inr.inr.inr.inr.inl =>
    cases ha : (a != 0) with
    | false =>
      have hv : opV 9 a b = tr (b != 0) := by simp [opV, ha]
      rw [hv]
      go_enter Tryz.func186, Tryz.ntmps186
      go_wp2_with (go_at_call 123; refine (CT.out _ _).mono ?_; rintro e w' ⟨rfl, rfl⟩)
      go_ret
      exact ⟨rfl, rfl⟩
    | true =>
      have hv : opV 9 a b = tr true := by simp [opV, ha]
      rw [hv]
      go_enter Tryz.func186, Tryz.ntmps186
      go_wp2_with (go_at_call 123; refine (CT.out _ _).mono ?_; rintro e w' ⟨rfl, rfl⟩)
      go_ret
      exact ⟨rfl, rfl⟩
  all_goals go_enter Tryz.func186, Tryz.ntmps186
  all_goals go_wp2_with (go_at_call 123; refine (CT.out _ _).mono ?_; rintro e w' ⟨rfl, rfl⟩)
  all_goals go_ret
  all_goals first
    | exact ⟨rfl, rfl⟩
    | exact ⟨congrArg (fun z => Ending.returned (.int .i64 z)) (show _ = opV _ a b by simp only [opV]; simp; omega), rfl⟩

end Go.Proofs.YtdeilceakhgjlaaGreat
/-
  One expression's value, the model's.
-/
namespace Go.Proofs.YtdeilceakhgjlaaGreat
open Go.RowKit Num

/-- An expression's value, from those of the expressions before it and of the variables. -/
def exV (op a b v : Int) (g f : Nat → Int) : Int :=
  if op = 1 then v else if op = 2 then f v.toNat else opV op (g a.toNat) (g b.toNat)

set_option maxRecDepth 100000 in
set_option maxHeartbeats 3200000 in
theorem specAp_any (lo lo' : Nat) (op a b v : Int) (A1 Aw : Option Addr) (n1 c1 n cw k : Nat) (g f : Nat → Int) (w : World) (ho : exOk op a b v k n = true) (hk : k < n1) (_hn1 : n1 ≤ 1000) (_hn : n ≤ 1000)
    (hg : ∀ j, j < k → 0 ≤ g j ∧ g j ≤ 20) (h1 : IntsAt lo w A1 n1 g) (hw : IntsAt lo' w Aw n f) :
    Calls Tryz.prog 233 #[.agg #[.int .i64 op, .int .i64 a, .int .i64 b, .int .i64 v], .slice A1 n1 c1, .slice Aw n cw] w fun e w' => e = .returned (.int .i64 (exV op a b v g f)) ∧ Below w.heap.size w w' := by
  have hbox := Box.new w 152 #[.int .i64 op, .int .i64 a, .int .i64 b, .int .i64 v]
  have hB := (Below.refl w.heap.size w).alloc (Nat.le_refl _) (.cells #[.int .i64 op, .int .i64 a, .int .i64 b, .int .i64 v] 152)
  replace h1 := h1.below hB (Nat.le_refl _)
  replace hw := hw.below hB (Nat.le_refl _)
  have q0 := hbox.cell 0
  have q1 := hbox.cell 1
  have q2 := hbox.cell 2
  have q3 := hbox.cell 3
  have CB : Hid (∀ p W, _) := Lib.hid fun p W => bool3_any p W
  have CL : Hid (∀ a b W, _) := Lib.hid fun a b W => least_any a b W
  have CM : Hid (∀ a b W, _) := Lib.hid fun a b W => most3_any a b W
  by_cases o1 : op = 1
  · subst o1
    clear ho hg h1 hw
    go_enter Tryz.func233, Tryz.ntmps233
    go_wp2_with fail
    go_ret
    exact ⟨rfl, hB⟩
  · by_cases o2 : op = 2
    · subst o2
      simp only [exOk, if_neg o1, if_true, decide_eq_true_eq] at ho
      obtain ⟨rfl, rfl, hv0, hv1⟩ := ho
      obtain ⟨m, rfl⟩ : ∃ m : Nat, v = (m : Int) := ⟨v.toNat, by omega⟩
      obtain ⟨bw, off, rfl, hb, s0⟩ := hw.at_ (show m < n by omega)
      have hm : m < n := by omega
      clear hg h1 hw o1
      go_enter Tryz.func233, Tryz.ntmps233
      go_wp2_with fail
      go_ret
      exact ⟨rfl, hB⟩
    · by_cases o10 : op = 10
      · subst o10
        simp only [exOk, if_neg o1, if_neg o2, if_true, decide_eq_true_eq] at ho
        obtain ⟨⟨ha0, ha1⟩, rfl, rfl⟩ := ho
        obtain ⟨i, rfl⟩ : ∃ i : Nat, a = (i : Int) := ⟨a.toNat, by omega⟩
        obtain ⟨bw, off, rfl, hb, s0⟩ := h1.at_ (show i < n1 by omega)
        have hm : i < n1 := by omega
        clear hg h1 hw o1 o2
        go_enter Tryz.func233, Tryz.ntmps233
        go_wp2_with (go_at_call 204; refine (CB.out _ _).mono ?_; rintro e w' ⟨rfl, rfl⟩)
        go_ret
        exact ⟨rfl, hB⟩
      · simp only [exOk, if_neg o1, if_neg o2, if_neg o10, decide_eq_true_eq] at ho
        obtain ⟨hop, ⟨ha0, ha1⟩, ⟨hb0, hb1⟩, rfl⟩ := ho
        obtain ⟨i, rfl⟩ : ∃ i : Nat, a = (i : Int) := ⟨a.toNat, by omega⟩
        obtain ⟨j, rfl⟩ : ∃ j : Nat, b = (j : Int) := ⟨b.toNat, by omega⟩
        obtain ⟨bw, off, rfl, hb, s0⟩ := h1.at_ (show i < n1 by omega)
        obtain ⟨bw', off', he', hb', s1⟩ := h1.at_ (show j < n1 by omega)
        injection he' with he'
        injection he' with e1 e2 _
        subst e1 e2
        have hi : i < n1 := by omega
        have hj : j < n1 := by omega
        have hx := hg i (by omega)
        have hy := hg j (by omega)
        have hv : exV op (i : Nat) (j : Nat) 0 g f = opV op (g i) (g j) := by simp only [exV, if_neg o1, if_neg o2, Int.toNat_natCast]
        rw [hv]
        generalize hgx : g i = x at *
        generalize hgy : g j = y at *
        clear hgx hgy hv
        have hm0 : 0 ≤ x * y := Int.mul_nonneg hx.1 hy.1
        have hm1 : x * y ≤ 20 * 20 := Int.mul_le_mul hx.2 hy.2 hy.1 (by omega)
        have w1 : IntKind.i64.wrap (x + y) = x + y := IntWalk.i64_in _ (by omega)
        have w2 : IntKind.i64.wrap (x - y) = x - y := IntWalk.i64_in _ (by omega)
        have w3 : IntKind.i64.wrap (x * y) = x * y := IntWalk.i64_in _ (by omega)
        have hc : op = 3 ∨ op = 4 ∨ op = 5 ∨ op = 6 ∨ op = 7 ∨ op = 8 ∨ op = 9 := by omega
        clear hm0 hm1 hg h1 hw o1 o2 o10 hop hx hy ha0 ha1 hb0 hb1
        rcases hc with rfl | rfl | rfl | rfl | rfl | rfl | rfl
        case inr.inr.inr.inr.inr.inl =>
          cases ha : (x != 0) with
          | false =>
            have hv : opV 8 x y = tr false := by simp [opV, ha]
            rw [hv]
            go_enter Tryz.func233, Tryz.ntmps233
            go_wp2_with fail
            go_quiet (fail)
            go_wp2_with (go_at_call 204; refine (CB.out _ _).mono ?_; rintro e w' ⟨rfl, rfl⟩)
            go_ret
            exact ⟨rfl, below_drewN _ hB⟩
          | true =>
            have hv : opV 8 x y = tr (y != 0) := by simp [opV, ha]
            rw [hv]
            go_enter Tryz.func233, Tryz.ntmps233
            go_wp2_with fail
            go_quiet (fail)
            go_wp2_with (go_at_call 204; refine (CB.out _ _).mono ?_; rintro e w' ⟨rfl, rfl⟩)
            go_ret
            exact ⟨rfl, below_drewN _ hB⟩
        case inr.inr.inr.inr.inr.inr =>
          cases ha : (x != 0) with
          | false =>
            have hv : opV 9 x y = tr (y != 0) := by simp [opV, ha]
            rw [hv]
            go_enter Tryz.func233, Tryz.ntmps233
            go_wp2_with fail
            go_quiet (fail)
            go_wp2_with (go_at_call 204; refine (CB.out _ _).mono ?_; rintro e w' ⟨rfl, rfl⟩)
            go_ret
            exact ⟨rfl, below_drewN _ hB⟩
          | true =>
            have hv : opV 9 x y = tr true := by simp [opV, ha]
            rw [hv]
            go_enter Tryz.func233, Tryz.ntmps233
            go_wp2_with fail
            go_quiet (fail)
            go_wp2_with (go_at_call 204; refine (CB.out _ _).mono ?_; rintro e w' ⟨rfl, rfl⟩)
            go_ret
            exact ⟨rfl, below_drewN _ hB⟩
        all_goals go_enter Tryz.func233, Tryz.ntmps233
        all_goals go_wp2_with fail
        all_goals go_quiet (fail)
        all_goals go_wp2_with (first
          | (go_at_call 204; refine (CB.out _ _).mono ?_; rintro e w' ⟨rfl, rfl⟩)
          | (go_at_call 172; refine (CL.out _ _ _).mono ?_; rintro e w' ⟨rfl, rfl⟩)
          | (go_at_call 173; refine (CM.out _ _ _).mono ?_; rintro e w' ⟨rfl, rfl⟩))
        all_goals go_ret
        all_goals exact ⟨rfl, below_drewN _ hB⟩

end Go.Proofs.YtdeilceakhgjlaaGreat
/-
  The values of a list of expressions, one after another.
-/
namespace Go.Proofs.YtdeilceakhgjlaaGreat
open Go.RowKit Num

/-- After k rounds the first k expressions have their values, and the others none. -/
def evs (F : Nat → Nat → Int) (f : Nat → Int) : Nat → Nat → Int
  | 0, _ => 0
  | k + 1, j => if j = k then exV (F k 0) (F k 1) (F k 2) (F k 3) (evs F f k) f else evs F f k j

theorem exsOk_at {F : Nat → Nat → Int} {m : Nat} : ∀ {n k : Nat}, exsOk F m n = true → k < n → exOk (F k 0) (F k 1) (F k 2) (F k 3) k m = true
  | 0, _, _, h => absurd h (Nat.not_lt_zero _)
  | n + 1, k, h, hk => by
    simp only [exsOk, Bool.and_eq_true] at h
    by_cases e : k = n
    · subst e
      exact h.2
    · exact exsOk_at h.1 (by omega)

theorem opV_20 {op a b : Int} (ha : 0 ≤ a ∧ a ≤ 20) (hb : 0 ≤ b ∧ b ≤ 20) : 0 ≤ opV op a b ∧ opV op a b ≤ 20 := by
  rcases opV_small (op := op) ha.1 hb.1 with h | rfl
  · exact h
  · have e : opV 4 a b = max (a - b) 0 := by simp [opV]
    rw [e]
    omega

theorem exV_20 {op a b v : Int} {k m : Nat} {g f : Nat → Int} (ho : exOk op a b v k m = true) (hg : ∀ j, 0 ≤ g j ∧ g j ≤ 20) (hf : ∀ j, j < m → 0 ≤ f j ∧ f j ≤ 20) : 0 ≤ exV op a b v g f ∧ exV op a b v g f ≤ 20 := by
  by_cases o1 : op = 1
  · subst o1
    simp only [exOk, if_true, decide_eq_true_eq] at ho
    simp only [exV, if_true]
    omega
  · by_cases o2 : op = 2
    · subst o2
      simp only [exOk, if_neg o1, if_true, decide_eq_true_eq] at ho
      simp only [exV, if_neg o1, if_true]
      exact hf _ (by omega)
    · simp only [exV, if_neg o1, if_neg o2]
      exact opV_20 (hg _) (hg _)

theorem evs_20 {F : Nat → Nat → Int} {f : Nat → Int} {m n : Nat} (h : exsOk F m n = true) (hf : ∀ j, j < m → 0 ≤ f j ∧ f j ≤ 20) : ∀ {k : Nat}, k ≤ n → ∀ j, 0 ≤ evs F f k j ∧ evs F f k j ≤ 20
  | 0, _, _ => by simp only [evs]; omega
  | k + 1, hk, j => by
    simp only [evs]
    split
    · exact exV_20 (exsOk_at h (by omega)) (evs_20 h hf (by omega)) hf
    · exact evs_20 h hf (by omega) j

end Go.Proofs.YtdeilceakhgjlaaGreat
