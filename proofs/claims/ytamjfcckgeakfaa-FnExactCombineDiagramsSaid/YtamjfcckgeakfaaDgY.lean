/-
  Decision diagrams, the program: the level of a reference; whether levels and references are in order. (Written by gen_dgy.py.)
-/
import Derived.Test.YtamjfcckgeakfaaDgX
namespace Go.Proofs.Ytamjfcckgeakfaa
open Go.RowKit Num

/-- The level of a reference; that of a constant is below all levels. -/
def lvI (L : Int) (f : Nat → Int) (r : Int) : Int := if r < 2 then L else f ((r.toNat - 2) * 3)

set_option maxRecDepth 100000 in
set_option maxHeartbeats 1600000 in
theorem levelAt_any (lo : Nat) (L ro r : Int) (n c : Nat) (A0 : Option Addr) (f : Nat → Int) (w : World) (hn : n ≤ 1048576) (_h1 : 0 ≤ r) (h2 : r < n + 2) (h : IntsAt lo w A0 (n * 3) f) :
    Calls Try.prog 76 #[dgV L A0 n c ro, .int .i64 r] w fun e w' => e = .returned (.int .i64 (lvI L f r)) ∧ Below w.heap.size w w' := by
  have hP := Box.new w 28 #[.int .i64 L, .slice A0 n c, .int .i64 ro]
  have hB := (Below.refl w.heap.size w).alloc (Nat.le_refl _) (.cells #[.int .i64 L, .slice A0 n c, .int .i64 ro] 28)
  obtain ⟨q0, q1, q2⟩ := hP.trio
  unfold lvI
  by_cases hr : r < 2
  · have d : decide (r < 2) = true := decide_eq_true hr
    rw [if_pos hr]
    clear h
    go_enter Try.func76, Try.ntmps76
    go_wp2_with fail
    go_ret
    exact ⟨rfl, hB⟩
  · have d : decide (r < 2) = false := decide_eq_false hr
    rw [if_neg hr]
    obtain ⟨b, off, rfl, hb, r0, r1, r2⟩ := (h.below hB (Nat.le_refl _)).trio (show r.toNat - 2 < n by omega)
    have e : IntKind.i64.wrap (r - 2) = ((r.toNat - 2 : Nat) : Int) := by rw [IntWalk.i64_in _ (by omega)]; omega
    have hlt : r.toNat - 2 < n := by omega
    generalize r.toNat - 2 = k at e r0 r1 r2 hlt ⊢
    clear _h1 h2 hr h
    go_enter Try.func76, Try.ntmps76
    go_wp2_with fail
    go_ret
    exact ⟨rfl, hB⟩

/-- What the program asks of node k. -/
def NdOk (L : Int) (f : Nat → Int) (k : Nat) : Prop := ((0 ≤ f (k * 3) ∧ f (k * 3) < L) ∧ (0 ≤ f (k * 3 + 1) ∧ f (k * 3 + 1) < k + 2) ∧ (0 ≤ f (k * 3 + 2) ∧ f (k * 3 + 2) < k + 2) ∧
  (2 ≤ f (k * 3 + 1) → f (k * 3) < f (((f (k * 3 + 1)).toNat - 2) * 3)) ∧ (2 ≤ f (k * 3 + 2) → f (k * 3) < f (((f (k * 3 + 2)).toNat - 2) * 3))) ∧ f (k * 3 + 1) ≠ f (k * 3 + 2)

theorem lv_less (L : Int) (f : Nat → Int) (x r : Int) (hx : x < L) : x < lvI L f r ↔ (2 ≤ r → x < f ((r.toNat - 2) * 3)) := by
  unfold lvI
  split
  · exact ⟨fun _ h => absurd h (by omega), fun _ => hx⟩
  · rename_i h; exact ⟨fun h' _ => h', fun h' => h' (by omega)⟩

theorem min_no {x la lb : Int} (h : (if lb < la then lb else la) ≤ x) (h1 : x < la) (h2 : x < lb) : False := by
  split at h <;> omega
theorem min_yes {x la lb : Int} (h : x < if lb < la then lb else la) : x < la ∧ x < lb := by
  split at h <;> omega

theorem and_dec {p q : Prop} [Decidable p] [Decidable q] {b : Bool} (h : (decide p && decide q) = b) : b = true ↔ p ∧ q := by rw [← h]; simp

theorem held6y {W W' : World} {p0 p1 p2 p3 p4 p5 : Prop} (h : p0 ∧ p1 ∧ p2 ∧ p3 ∧ p4 ∧ p5 ∧ Below W.heap.size W W') : Below W.heap.size W W' := h.2.2.2.2.2.2

set_option maxRecDepth 100000 in
set_option maxHeartbeats 12800000 in
theorem leveled_any (lo : Nat) (L ro : Int) (n c : Nat) (A0 : Option Addr) (f : Nat → Int) (w : World) (hn : n ≤ 1048576) (h0 : IntsAt lo w A0 (n * 3) f) :
    Calls Try.prog 70 #[dgV L A0 n c ro] w (Yd (ShpI L n f ∧ ∀ k, k < n → f (k * 3 + 1) ≠ f (k * 3 + 2)) w) := by
  have hP := Box.new w 28 #[.int .i64 L, .slice A0 n c, .int .i64 ro]
  have hB := (Below.refl w.heap.size w).alloc (Nat.le_refl _) (.cells #[.int .i64 L, .slice A0 n c, .int .i64 ro] 28)
  obtain ⟨q0, q1, q2⟩ := hP.trio
  have H0 := Lib.hid h0; clear h0
  go_enter Try.func70, Try.ntmps70
  go_wp2_with fail
  clear q0 q1 q2
  generalize hW : World.alloc _ _ = W0 at hP hB ⊢
  clear hW
  go_loopg [8] n (fun q iv wr => ∃ k : Nat, k + q = n ∧ iv = .int .i64 (k : Nat) ∧ Hid (∀ j, j < k → NdOk L f j) ∧ Box wr w.heap.size 28 #[.int .i64 L, .slice A0 n c, .int .i64 ro] ∧ Below w.heap.size w wr)
  case atStart => exact ⟨0, by omega, rfl, Lib.hid fun j h => by omega, hP, hB⟩
  case round =>
    clear hP hB
    obtain ⟨k, hk, rfl, hq, hP, hB⟩ := hrel
    obtain ⟨q0, q1, q2⟩ := hP.trio
    by_cases hk0 : k < n
    · obtain ⟨b, off, rfl, hb, r0, r1, r2⟩ := (H0.out.below hB (Nat.le_refl _)).trio hk0
      have e2 : IntKind.i64.wrap (2 + (k : Int)) = (k : Int) + 2 := by rw [IntWalk.i64_in _ (by omega)]; omega
      have hX := Box.new wr 86 #[.int .i64 (f (k * 3)), .int .i64 (f (k * 3 + 1)), .int .i64 (f (k * 3 + 2))]
      have hb1 := hB.alloc hB.size (.cells #[.int .i64 (f (k * 3)), .int .i64 (f (k * 3 + 1)), .int .i64 (f (k * 3 + 2))] 86)
      have hP1 := hP.alloc (.cells #[.int .i64 (f (k * 3)), .int .i64 (f (k * 3 + 1)), .int .i64 (f (k * 3 + 2))] 86)
      obtain ⟨x0, x1, x2⟩ := hX.trio
      obtain ⟨s0, s1, s2⟩ := hP1.trio
      have C1 : Hid (∀ W, _) := Lib.hid fun W => isIndex_any (f (k * 3)) L W
      have C2 : Hid (∀ W, _) := Lib.hid fun W => isIndex_any (f (k * 3 + 1)) ((k : Int) + 2) W
      have C3 : Hid (∀ W, _) := Lib.hid fun W => isIndex_any (f (k * 3 + 2)) ((k : Int) + 2) W
      cases e3 : (decide (0 ≤ f (k * 3)) && decide (f (k * 3) < L)) with
      | false =>
        rw [e3] at C1
        have HE := Lib.hid (mt (and_dec e3).2 (by simp))
        clear e3
        go_wp2_with (go_at_call 46; refine (C1.out _).mono ?_; rintro e w1 ⟨rfl, rfl⟩)
        go_ret
        exact Yd.no (fun h => HE.out (h.1 k hk0).1) hb1
      | true =>
        rw [e3] at C1
        have HE1 := Lib.hid ((and_dec e3).1 rfl)
        clear e3
        cases e4 : (decide (0 ≤ f (k * 3 + 1)) && decide (f (k * 3 + 1) < (k : Int) + 2)) with
        | false =>
          rw [e4] at C2
          have HE := Lib.hid (mt (and_dec e4).2 (by simp))
          clear e4
          go_wp2_with (go_at_call 46; first | (with_reducible refine (C1.out _).mono ?_; rintro e w1 ⟨rfl, rfl⟩) | (with_reducible refine (C2.out _).mono ?_; rintro e w1 ⟨rfl, rfl⟩))
          go_ret
          exact Yd.no (fun h => HE.out (h.1 k hk0).2.1) hb1
        | true =>
          rw [e4] at C2
          have HE2 := Lib.hid ((and_dec e4).1 rfl)
          clear e4
          cases e5 : (decide (0 ≤ f (k * 3 + 2)) && decide (f (k * 3 + 2) < (k : Int) + 2)) with
          | false =>
            rw [e5] at C3
            have HE := Lib.hid (mt (and_dec e5).2 (by simp))
            clear e5
            go_wp2_with (go_at_call 46; first | (with_reducible refine (C1.out _).mono ?_; rintro e w1 ⟨rfl, rfl⟩) | (with_reducible refine (C2.out _).mono ?_; rintro e w1 ⟨rfl, rfl⟩) | (with_reducible refine (C3.out _).mono ?_; rintro e w1 ⟨rfl, rfl⟩))
            go_ret
            exact Yd.no (fun h => HE.out (h.1 k hk0).2.2.1) hb1
          | true =>
            rw [e5] at C3
            have HE3 := Lib.hid ((and_dec e5).1 rfl)
            clear e5
            by_cases he : f (k * 3 + 1) = f (k * 3 + 2)
            · have ee : (f (k * 3 + 1) == f (k * 3 + 2)) = true := beq_iff_eq.2 he
              have HE := Lib.hid he
              clear he
              go_upto_region 6 with (go_at_call 46; first | (with_reducible refine (C1.out _).mono ?_; rintro e w1 ⟨rfl, rfl⟩) | (with_reducible refine (C2.out _).mono ?_; rintro e w1 ⟨rfl, rfl⟩) | (with_reducible refine (C3.out _).mono ?_; rintro e w1 ⟨rfl, rfl⟩))
              refine wp_region_held_drew (S := fun w' => w'.cell? ⟨wr.heap.size, 1, none⟩ = some (.int .i64 (f (k * 3 + 1))) ∧ w'.cell? ⟨wr.heap.size, 2, none⟩ = some (.int .i64 (f (k * 3 + 2)))) (by kernel_rfl) ?_ (fun hHeld => ?_)
              · (try dsimp only); exact ⟨x1, x2⟩
              refine wpAnyH_take (i := 0) (v := .pointer (some ⟨wr.heap.size, 1, none⟩)) rfl (by kernel_rfl) (by kernel_rfl) (by kernel_rfl) (fun _ _ _ h => h) (Or.inl ⟨by rfl, ?_⟩) (by assumption) ?_
              · intro w' hSw; (try dsimp only at hSw); go_simp
              (try simp only [Act.put, List.getElem_toArray, List.getElem_cons_zero, List.setIfInBounds_toArray, List.set_cons_zero, List.set_cons_succ])
              refine wpAnyH_take (i := 1) (v := .int .i64 (f (k * 3 + 1))) rfl (by kernel_rfl) (by kernel_rfl) (by kernel_rfl) (fun _ _ _ h => h) (Or.inl ⟨by rfl, ?_⟩) (by assumption) ?_
              · intro w' hSw; (try dsimp only at hSw); go_simp
              (try simp only [Act.put, List.getElem_toArray, List.getElem_cons_zero, List.getElem_cons_succ, List.setIfInBounds_toArray, List.set_cons_zero, List.set_cons_succ])
              refine wpAnyH_take (i := 2) (v := .pointer (some ⟨wr.heap.size, 2, none⟩)) rfl (by kernel_rfl) (by kernel_rfl) (by kernel_rfl) (fun _ _ _ h => h) (Or.inl ⟨by rfl, ?_⟩) (by assumption) ?_
              · intro w' hSw; (try dsimp only at hSw); go_simp
              (try simp only [Act.put, List.getElem_toArray, List.getElem_cons_zero, List.getElem_cons_succ, List.setIfInBounds_toArray, List.set_cons_zero, List.set_cons_succ])
              refine wpAnyH_take (i := 3) (v := .int .i64 (f (k * 3 + 2))) rfl (by kernel_rfl) (by kernel_rfl) (by kernel_rfl) (fun _ _ _ h => h) (Or.inl ⟨by rfl, ?_⟩) (by assumption) ?_
              · intro w' hSw; (try dsimp only at hSw); go_simp
              (try simp only [Act.put, List.getElem_toArray, List.getElem_cons_zero, List.getElem_cons_succ, List.setIfInBounds_toArray, List.set_cons_zero, List.set_cons_succ])
              refine wpAnyH_take (i := 4) (v := .bool true) rfl (by kernel_rfl) (by kernel_rfl) (by kernel_rfl) (fun _ _ _ h => h) (Or.inl ⟨by rfl, ?_⟩) (by assumption) ?_
              · intro w' hSw; (try dsimp only at hSw); go_simp
              (try simp only [Act.put, List.getElem_toArray, List.getElem_cons_zero, List.getElem_cons_succ, List.setIfInBounds_toArray, List.set_cons_zero, List.set_cons_succ])
              refine wpAnyH_take (i := 5) (v := .bool true) rfl (by kernel_rfl) (by kernel_rfl) (by kernel_rfl) (fun _ _ _ h => h) (Or.inl ⟨by rfl, ?_⟩) (by assumption) ?_
              · intro w' hSw; (try dsimp only at hSw); go_simp
              (try simp only [Act.put, List.getElem_toArray, List.getElem_cons_zero, List.getElem_cons_succ, List.setIfInBounds_toArray, List.set_cons_zero, List.set_cons_succ])
              refine wpAnyH_take (i := 6) (v := undef) rfl (by kernel_rfl) (by kernel_rfl) (by kernel_rfl) (fun _ _ _ h => h) (Or.inr ⟨by simp [Region.wanted, yielded], rfl⟩) (by assumption) ?_
              (try simp only [Act.put, List.getElem_toArray, List.getElem_cons_zero, List.getElem_cons_succ, List.setIfInBounds_toArray, List.set_cons_zero, List.set_cons_succ])
              refine wpAnyH_take (i := 7) (v := undef) rfl (by kernel_rfl) (by kernel_rfl) (by kernel_rfl) (fun _ _ _ h => h) (Or.inr ⟨by simp [Region.wanted, yielded], rfl⟩) (by assumption) ?_
              (try simp only [Act.put, List.getElem_toArray, List.getElem_cons_zero, List.getElem_cons_succ, List.setIfInBounds_toArray, List.set_cons_zero, List.set_cons_succ])
              refine wpAnyH_take (i := 8) (v := undef) rfl (by kernel_rfl) (by kernel_rfl) (by kernel_rfl) (fun _ _ _ h => h) (Or.inr ⟨by simp [Region.wanted, yielded], rfl⟩) (by assumption) ?_
              (try simp only [Act.put, List.getElem_toArray, List.getElem_cons_zero, List.getElem_cons_succ, List.setIfInBounds_toArray, List.set_cons_zero, List.set_cons_succ])
              refine wpAnyH_take (i := 9) (v := undef) rfl (by kernel_rfl) (by kernel_rfl) (by kernel_rfl) (fun _ _ _ h => h) (Or.inr ⟨by simp [Region.wanted, yielded], rfl⟩) (by assumption) ?_
              (try simp only [Act.put, List.getElem_toArray, List.getElem_cons_zero, List.getElem_cons_succ, List.setIfInBounds_toArray, List.set_cons_zero, List.set_cons_succ])
              refine wpAnyH_take (i := 10) (v := undef) rfl (by kernel_rfl) (by kernel_rfl) (by kernel_rfl) (fun _ _ _ h => h) (Or.inr ⟨by simp [Region.wanted, yielded], rfl⟩) (by assumption) ?_
              (try simp only [Act.put, List.getElem_toArray, List.getElem_cons_zero, List.getElem_cons_succ, List.setIfInBounds_toArray, List.set_cons_zero, List.set_cons_succ])
              refine wpAnyH_take (i := 11) (v := undef) rfl (by kernel_rfl) (by kernel_rfl) (by kernel_rfl) (fun _ _ _ h => h) (Or.inr ⟨by simp [Region.wanted, yielded], rfl⟩) (by assumption) ?_
              (try simp only [Act.put, List.getElem_toArray, List.getElem_cons_zero, List.getElem_cons_succ, List.setIfInBounds_toArray, List.set_cons_zero, List.set_cons_succ])
              refine wpAnyH_take (i := 12) (v := undef) rfl (by kernel_rfl) (by kernel_rfl) (by kernel_rfl) (fun _ _ _ h => h) (Or.inr ⟨by simp [Region.wanted, yielded], rfl⟩) (by assumption) ?_
              (try simp only [Act.put, List.getElem_toArray, List.getElem_cons_zero, List.getElem_cons_succ, List.setIfInBounds_toArray, List.set_cons_zero, List.set_cons_succ])
              refine wpAnyH_take (i := 13) (v := undef) rfl (by kernel_rfl) (by kernel_rfl) (by kernel_rfl) (fun _ _ _ h => h) (Or.inr ⟨by simp [Region.wanted, yielded], rfl⟩) (by assumption) ?_
              (try simp only [Act.put, List.getElem_toArray, List.getElem_cons_zero, List.getElem_cons_succ, List.setIfInBounds_toArray, List.set_cons_zero, List.set_cons_succ])
              refine wpAnyH_take (i := 14) (v := undef) rfl (by kernel_rfl) (by kernel_rfl) (by kernel_rfl) (fun _ _ _ h => h) (Or.inr ⟨by simp [Region.wanted, yielded], rfl⟩) (by assumption) ?_
              (try simp only [Act.put, List.getElem_toArray, List.getElem_cons_zero, List.getElem_cons_succ, List.setIfInBounds_toArray, List.set_cons_zero, List.set_cons_succ])
              refine wpAnyH_take (i := 15) (v := undef) rfl (by kernel_rfl) (by kernel_rfl) (by kernel_rfl) (fun _ _ _ h => h) (Or.inr ⟨by simp [Region.wanted, yielded], rfl⟩) (by assumption) ?_
              (try simp only [Act.put, List.getElem_toArray, List.getElem_cons_zero, List.getElem_cons_succ, List.setIfInBounds_toArray, List.set_cons_zero, List.set_cons_succ])
              refine wpAnyH_take (i := 16) (v := undef) rfl (by kernel_rfl) (by kernel_rfl) (by kernel_rfl) (fun _ _ _ h => h) (Or.inr ⟨by simp [Region.wanted, yielded], rfl⟩) (by assumption) ?_
              (try simp only [Act.put, List.getElem_toArray, List.getElem_cons_zero, List.getElem_cons_succ, List.setIfInBounds_toArray, List.set_cons_zero, List.set_cons_succ])
              refine wpAnyH_take (i := 17) (v := undef) rfl (by kernel_rfl) (by kernel_rfl) (by kernel_rfl) (fun _ _ _ h => h) (Or.inr ⟨by simp [Region.wanted, yielded], rfl⟩) (by assumption) ?_
              (try simp only [Act.put, List.getElem_toArray, List.getElem_cons_zero, List.getElem_cons_succ, List.setIfInBounds_toArray, List.set_cons_zero, List.set_cons_succ])
              refine wpAnyH_take (i := 18) (v := .bool true) rfl (by kernel_rfl) (by kernel_rfl) (by kernel_rfl) (fun _ _ _ h => h) (Or.inl ⟨by rfl, ?_⟩) (by assumption) ?_
              · intro w' hSw; (try dsimp only at hSw); go_simp
              (try simp only [Act.put, List.getElem_toArray, List.getElem_cons_zero, List.getElem_cons_succ, List.setIfInBounds_toArray, List.set_cons_zero, List.set_cons_succ])
              refine wpAnyH_done (by kernel_rfl) ?_ _
              go_wp2_with fail
              go_ret
              exact Yd.no (fun h => h.2 k hk0 HE.out) hb1.drew
            · have ee : (f (k * 3 + 1) == f (k * 3 + 2)) = false := beq_eq_false_iff_ne.2 he
              have HE := Lib.hid he
              clear he
              have hXl := hX.lt
              have hPl := hP1.lt
              have CL : Hid (∀ W, Below w.heap.size w W → _) := Lib.hid fun W hW => levelAt_any lo L ro (f (k * 3 + 1)) n c (some ⟨b, off, none⟩) f W hn HE2.out.1 (by have := HE2.out.2; omega) (H0.out.below hW (Nat.le_refl _))
              have CH : Hid (∀ W, Below w.heap.size w W → _) := Lib.hid fun W hW => levelAt_any lo L ro (f (k * 3 + 2)) n c (some ⟨b, off, none⟩) f W hn HE3.out.1 (by have := HE3.out.2; omega) (H0.out.below hW (Nat.le_refl _))
              have HB1 := Lib.hid hb1
              have HP1 := Lib.hid hP1
              have HA := Lib.hid (lv_less L f (f (k * 3)) (f (k * 3 + 1)) HE1.out.2)
              have HZ := Lib.hid (lv_less L f (f (k * 3)) (f (k * 3 + 2)) HE1.out.2)
              generalize lvI L f (f (k * 3 + 1)) = la at CL HA
              generalize lvI L f (f (k * 3 + 2)) = lb at CH HZ
              go_upto_region 6 with (go_at_call 46; first | (with_reducible refine (C1.out _).mono ?_; rintro e w1 ⟨rfl, rfl⟩) | (with_reducible refine (C2.out _).mono ?_; rintro e w1 ⟨rfl, rfl⟩) | (with_reducible refine (C3.out _).mono ?_; rintro e w1 ⟨rfl, rfl⟩))
              generalize hW1 : (wr.alloc (.cells #[.int .i64 (f (k * 3)), .int .i64 (f (k * 3 + 1)), .int .i64 (f (k * 3 + 2))] 86)) = W1 at x0 x1 x2 s0 s1 s2 hX hP1 hb1 hXl hPl HB1 HP1 ⊢
              clear hW1 hX hP1 hb1 hB hP q0 q1 q2 r0 r1 r2
              go_region_held3 (fun w' => w'.cell? ⟨wr.heap.size, 0, none⟩ = some (.int .i64 (f (k * 3))) ∧ w'.cell? ⟨wr.heap.size, 1, none⟩ = some (.int .i64 (f (k * 3 + 1))) ∧ w'.cell? ⟨wr.heap.size, 2, none⟩ = some (.int .i64 (f (k * 3 + 2))) ∧ w'.cell? ⟨w.heap.size, 0, none⟩ = some (.int .i64 L) ∧ w'.cell? ⟨w.heap.size, 1, none⟩ = some (.slice (some ⟨b, off, none⟩) n c) ∧ w'.cell? ⟨w.heap.size, 2, none⟩ = some (.int .i64 ro) ∧ Below W1.heap.size W1 w')
                ((suffices hBB : Below W1.heap.size W1 _ from ⟨(hBB.cell hXl).trans x0, (hBB.cell hXl).trans x1, (hBB.cell hXl).trans x2, (hBB.cell hPl).trans s0, (hBB.cell hPl).trans s1, (hBB.cell hPl).trans s2, hBB⟩; first | exact (Below.refl _ W1).drew | exact held6y (by assumption) | (refine stepB (held6y (by assumption)) ?_; assumption)))
                (first
                  | (go_at_call 76; with_reducible refine (CL.out _ ?_).mono ?_; exact HB1.out.trans (Below.mono (held6y (by assumption)) HB1.out.size); rintro e w3 ⟨rfl, hb3⟩)
                  | (go_at_call 76; with_reducible refine (CH.out _ ?_).mono ?_; exact HB1.out.trans (Below.mono (held6y (by assumption)) HB1.out.size); rintro e w4 ⟨rfl, hb4⟩))
              go_wp2_with fail
              all_goals first
                | (go_ret
                   exact Yd.no (fun h => min_no (by assumption) (HA.out.2 (h.1 k hk0).2.2.2.1) (HZ.out.2 (h.1 k hk0).2.2.2.2)) (HB1.out.trans (Below.mono (held6y (by assumption)) HB1.out.size)))
                | (go_roundg (gk - 1)
                   case rel => exact ⟨k + 1, by omega, by go_num, Lib.hid fun j hj => by
                     by_cases hjk : j < k
                     · exact hq.out j hjk
                     · obtain rfl : j = k := by omega
                       have hm := min_yes (by assumption)
                       exact ⟨⟨HE1.out, HE2.out, HE3.out, HA.out.1 hm.1, HZ.out.1 hm.2⟩, HE.out⟩, HP1.out.below (held6y (by assumption)) hPl, HB1.out.trans (Below.mono (held6y (by assumption)) HB1.out.size)⟩
                   case measure => omega)
    · obtain rfl : k = n := by omega
      go_wp2_with fail
      go_ret
      exact Yd.yes ⟨fun j hj => (hq.out j hj).1, fun j hj => (hq.out j hj).2⟩ hB

end Go.Proofs.Ytamjfcckgeakfaa
