/-
  One expression's value, the model's.
-/
import Derived.Test.YtcdgbjklfmlhkaaPgEv2
namespace Go.Proofs.Ytcdgbjklfmlhkaa
open Go.RowKit Num

/-- An expression's value, from those of the expressions before it and of the variables. -/
def exV (op a b v : Int) (g f : Nat → Int) : Int :=
  if op = 1 then v else if op = 2 then f v.toNat else opV op (g a.toNat) (g b.toNat)

set_option maxRecDepth 100000 in
set_option maxHeartbeats 3200000 in
theorem specAp_any (lo lo' : Nat) (op a b v : Int) (A1 Aw : Option Addr) (n1 c1 n cw k : Nat) (g f : Nat → Int) (w : World) (ho : exOk op a b v k n = true) (hk : k < n1) (_hn1 : n1 ≤ 1000) (_hn : n ≤ 1000)
    (hg : ∀ j, j < k → 0 ≤ g j ∧ g j ≤ 20) (h1 : IntsAt lo w A1 n1 g) (hw : IntsAt lo' w Aw n f) :
    Calls Try.prog 100 #[.agg #[.int .i64 op, .int .i64 a, .int .i64 b, .int .i64 v], .slice A1 n1 c1, .slice Aw n cw] w fun e w' => e = .returned (.int .i64 (exV op a b v g f)) ∧ Below w.heap.size w w' := by
  have hbox := Box.new w 133 #[.int .i64 op, .int .i64 a, .int .i64 b, .int .i64 v]
  have hB := (Below.refl w.heap.size w).alloc (Nat.le_refl _) (.cells #[.int .i64 op, .int .i64 a, .int .i64 b, .int .i64 v] 133)
  replace h1 := h1.below hB (Nat.le_refl _)
  replace hw := hw.below hB (Nat.le_refl _)
  have q0 := hbox.cell 0
  have q1 := hbox.cell 1
  have q2 := hbox.cell 2
  have q3 := hbox.cell 3
  have CB : Hid (∀ p W, _) := Lib.hid fun p W => bool3_any p W
  have CL : Hid (∀ a b W, _) := Lib.hid fun a b W => least_any a b W
  have CM : Hid (∀ a b W, _) := Lib.hid fun a b W => most3_any a b W
  by_cases o1 : op = 1
  · subst o1
    clear ho hg h1 hw
    go_enter Try.func100, Try.ntmps100
    go_wp2_with fail
    go_ret
    exact ⟨rfl, hB⟩
  · by_cases o2 : op = 2
    · subst o2
      simp only [exOk, if_neg o1, if_true, decide_eq_true_eq] at ho
      obtain ⟨rfl, rfl, hv0, hv1⟩ := ho
      obtain ⟨m, rfl⟩ : ∃ m : Nat, v = (m : Int) := ⟨v.toNat, by omega⟩
      obtain ⟨bw, off, rfl, hb, s0⟩ := hw.at_ (show m < n by omega)
      have hm : m < n := by omega
      clear hg h1 hw o1
      go_enter Try.func100, Try.ntmps100
      go_wp2_with fail
      go_ret
      exact ⟨rfl, hB⟩
    · by_cases o10 : op = 10
      · subst o10
        simp only [exOk, if_neg o1, if_neg o2, if_true, decide_eq_true_eq] at ho
        obtain ⟨⟨ha0, ha1⟩, rfl, rfl⟩ := ho
        obtain ⟨i, rfl⟩ : ∃ i : Nat, a = (i : Int) := ⟨a.toNat, by omega⟩
        obtain ⟨bw, off, rfl, hb, s0⟩ := h1.at_ (show i < n1 by omega)
        have hm : i < n1 := by omega
        clear hg h1 hw o1 o2
        go_enter Try.func100, Try.ntmps100
        go_wp2_with (go_at_call 138; refine (CB.out _ _).mono ?_; rintro e w' ⟨rfl, rfl⟩)
        go_ret
        exact ⟨rfl, hB⟩
      · simp only [exOk, if_neg o1, if_neg o2, if_neg o10, decide_eq_true_eq] at ho
        obtain ⟨hop, ⟨ha0, ha1⟩, ⟨hb0, hb1⟩, rfl⟩ := ho
        obtain ⟨i, rfl⟩ : ∃ i : Nat, a = (i : Int) := ⟨a.toNat, by omega⟩
        obtain ⟨j, rfl⟩ : ∃ j : Nat, b = (j : Int) := ⟨b.toNat, by omega⟩
        obtain ⟨bw, off, rfl, hb, s0⟩ := h1.at_ (show i < n1 by omega)
        obtain ⟨bw', off', he', hb', s1⟩ := h1.at_ (show j < n1 by omega)
        injection he' with he'
        injection he' with e1 e2 _
        subst e1 e2
        have hi : i < n1 := by omega
        have hj : j < n1 := by omega
        have hx := hg i (by omega)
        have hy := hg j (by omega)
        have hv : exV op (i : Nat) (j : Nat) 0 g f = opV op (g i) (g j) := by simp only [exV, if_neg o1, if_neg o2, Int.toNat_natCast]
        rw [hv]
        generalize hgx : g i = x at *
        generalize hgy : g j = y at *
        clear hgx hgy hv
        have hm0 : 0 ≤ x * y := Int.mul_nonneg hx.1 hy.1
        have hm1 : x * y ≤ 20 * 20 := Int.mul_le_mul hx.2 hy.2 hy.1 (by omega)
        have w1 : IntKind.i64.wrap (x + y) = x + y := IntWalk.i64_in _ (by omega)
        have w2 : IntKind.i64.wrap (x - y) = x - y := IntWalk.i64_in _ (by omega)
        have w3 : IntKind.i64.wrap (x * y) = x * y := IntWalk.i64_in _ (by omega)
        have hc : op = 3 ∨ op = 4 ∨ op = 5 ∨ op = 6 ∨ op = 7 ∨ op = 8 ∨ op = 9 := by omega
        clear hm0 hm1 hg h1 hw o1 o2 o10 hop hx hy ha0 ha1 hb0 hb1
        rcases hc with rfl | rfl | rfl | rfl | rfl | rfl | rfl
        case inr.inr.inr.inr.inr.inl =>
          cases ha : (x != 0) with
          | false =>
            have hv : opV 8 x y = tr false := by simp [opV, ha]
            rw [hv]
            go_enter Try.func100, Try.ntmps100
            go_wp2_with fail
            go_quiet (fail)
            go_wp2_with (go_at_call 138; refine (CB.out _ _).mono ?_; rintro e w' ⟨rfl, rfl⟩)
            go_ret
            exact ⟨rfl, below_drewN _ hB⟩
          | true =>
            have hv : opV 8 x y = tr (y != 0) := by simp [opV, ha]
            rw [hv]
            go_enter Try.func100, Try.ntmps100
            go_wp2_with fail
            go_quiet (fail)
            go_wp2_with (go_at_call 138; refine (CB.out _ _).mono ?_; rintro e w' ⟨rfl, rfl⟩)
            go_ret
            exact ⟨rfl, below_drewN _ hB⟩
        case inr.inr.inr.inr.inr.inr =>
          cases ha : (x != 0) with
          | false =>
            have hv : opV 9 x y = tr (y != 0) := by simp [opV, ha]
            rw [hv]
            go_enter Try.func100, Try.ntmps100
            go_wp2_with fail
            go_quiet (fail)
            go_wp2_with (go_at_call 138; refine (CB.out _ _).mono ?_; rintro e w' ⟨rfl, rfl⟩)
            go_ret
            exact ⟨rfl, below_drewN _ hB⟩
          | true =>
            have hv : opV 9 x y = tr true := by simp [opV, ha]
            rw [hv]
            go_enter Try.func100, Try.ntmps100
            go_wp2_with fail
            go_quiet (fail)
            go_wp2_with (go_at_call 138; refine (CB.out _ _).mono ?_; rintro e w' ⟨rfl, rfl⟩)
            go_ret
            exact ⟨rfl, below_drewN _ hB⟩
        all_goals go_enter Try.func100, Try.ntmps100
        all_goals go_wp2_with fail
        all_goals go_quiet (fail)
        all_goals go_wp2_with (first
          | (go_at_call 138; refine (CB.out _ _).mono ?_; rintro e w' ⟨rfl, rfl⟩)
          | (go_at_call 126; refine (CL.out _ _ _).mono ?_; rintro e w' ⟨rfl, rfl⟩)
          | (go_at_call 139; refine (CM.out _ _ _).mono ?_; rintro e w' ⟨rfl, rfl⟩))
        all_goals go_ret
        all_goals exact ⟨rfl, below_drewN _ hB⟩

end Go.Proofs.Ytcdgbjklfmlhkaa
