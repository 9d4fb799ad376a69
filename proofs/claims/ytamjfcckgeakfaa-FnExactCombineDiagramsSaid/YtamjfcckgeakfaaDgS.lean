/-
  Decision diagrams, the model: whether levels and references are in order.
-/
import Derived.Test.YtamjfcckgeakfaaDgZ
namespace Go.Proofs.Ytamjfcckgeakfaa
open Go.RowKit Num

theorem l1In_iff {a b x : Int} {r : Bool} (h : (decide (a ≤ x) && decide (x ≤ b)) = r) : r = true ↔ a ≤ x ∧ x ≤ b := by rw [← h]; simp

/-- The two references of node k. -/
def rf (f : Nat → Int) (k j : Nat) : Int := if j = 0 then f (k * 3 + 1) else f (k * 3 + 2)

set_option maxRecDepth 100000 in
set_option maxHeartbeats 12800000 in
theorem specShape_any (lo : Nat) (L ro : Int) (n c : Nat) (A0 : Option Addr) (f : Nat → Int) (w : World) (hn : n ≤ 1048576) (h0 : IntsAt lo w A0 (n * 3) f) :
    Calls Try.prog 65 #[dgV L A0 n c ro] w (Yd ((0 ≤ L ∧ L ≤ 10) ∧ n ≤ 1024 ∧ (0 ≤ ro ∧ ro < n + 2) ∧ ShpI L n f) w) := by
  have hP := Box.new w 28 #[.int .i64 L, .slice A0 n c, .int .i64 ro]
  have hB := (Below.refl w.heap.size w).alloc (Nat.le_refl _) (.cells #[.int .i64 L, .slice A0 n c, .int .i64 ro] 28)
  obtain ⟨q0, q1, q2⟩ := hP.trio
  have H0 := Lib.hid h0; clear h0
  have C1 : Hid (∀ W, _) := Lib.hid fun W => l1In_any L 0 10 W
  have C2 : Hid (∀ W, _) := Lib.hid fun W => l1In_any ro 0 ((n : Int) + 1) W
  have e2 : IntKind.i64.wrap ((n : Int) + 1) = (n : Int) + 1 := IntWalk.i64_in _ (by omega)
  cases e1 : (decide (0 ≤ L) && decide (L ≤ 10)) with
  | false =>
    rw [e1] at C1
    have HE := Lib.hid (mt (l1In_iff e1).2 (by simp))
    clear e1
    go_enter Try.func65, Try.ntmps65
    go_wp2_with (go_at_call 40; refine (C1.out _).mono ?_; rintro e w1 ⟨rfl, rfl⟩)
    go_ret
    exact Yd.no (fun h => HE.out h.1) hB
  | true =>
    rw [e1] at C1
    have hL := (l1In_iff e1).1 rfl
    have HE1 := Lib.hid hL
    clear e1
    by_cases h4 : n ≤ 1024
    case neg =>
      have d4 : decide ((n : Int) > 1024) = true := decide_eq_true (by omega)
      have d4' : decide (1024 < (n : Int)) = true := decide_eq_true (by omega)
      have HE := Lib.hid h4
      clear h4 hL
      go_enter Try.func65, Try.ntmps65
      go_wp2_with (go_at_call 40; refine (C1.out _).mono ?_; rintro e w1 ⟨rfl, rfl⟩)
      go_ret
      exact Yd.no (fun h => HE.out h.2.1) hB
    have d4 : decide ((n : Int) > 1024) = false := decide_eq_false (by omega)
    have d4' : decide (1024 < (n : Int)) = false := decide_eq_false (by omega)
    cases e3 : (decide (0 ≤ ro) && decide (ro ≤ (n : Int) + 1)) with
    | false =>
      rw [e3] at C2
      have HE := Lib.hid (mt (l1In_iff e3).2 (by simp))
      clear e3 hL
      go_enter Try.func65, Try.ntmps65
      go_wp2_with (go_at_call 40; first | (with_reducible refine (C1.out _).mono ?_; rintro e w1 ⟨rfl, rfl⟩) | (with_reducible refine (C2.out _).mono ?_; rintro e w1 ⟨rfl, rfl⟩))
      go_ret
      exact Yd.no (fun h => HE.out ⟨h.2.2.1.1, by have := h.2.2.1.2; omega⟩) hB
    | true =>
      rw [e3] at C2
      have HE3 := Lib.hid ((l1In_iff e3).1 rfl)
      clear e3
      have eL : IntKind.i64.wrap (L - 1) = L - 1 := IntWalk.i64_in _ (by omega)
      have H4 := Lib.hid h4
      clear hL
      go_enter Try.func65, Try.ntmps65
      go_wp2_with (go_at_call 40; first | (with_reducible refine (C1.out _).mono ?_; rintro e w1 ⟨rfl, rfl⟩) | (with_reducible refine (C2.out _).mono ?_; rintro e w1 ⟨rfl, rfl⟩))
      clear q0 q1 q2 C1 C2 d4 d4' e2
      generalize hW : World.alloc _ _ = W0 at hP hB ⊢
      clear hW
      go_loopg [30] n (fun q iv wr => ∃ k : Nat, k + q = n ∧ iv = .int .i64 (k : Nat) ∧ Hid (ShpI L k f) ∧ Box wr w.heap.size 28 #[.int .i64 L, .slice A0 n c, .int .i64 ro] ∧ Below w.heap.size w wr)
      case atStart => exact ⟨0, by omega, rfl, Lib.hid fun j h => by omega, hP, hB⟩
      case round =>
        clear hP hB
        obtain ⟨k, hk, rfl, hq, hP, hB⟩ := hrel
        obtain ⟨q0, q1, q2⟩ := hP.trio
        by_cases hk0 : k < n
        · obtain ⟨b, off, rfl, hb, r0, r1, r2⟩ := (H0.out.below hB (Nat.le_refl _)).trio hk0
          have e2 : IntKind.i64.wrap ((k : Int) + 1) = (k : Int) + 1 := IntWalk.i64_in _ (by omega)
          have hX := Box.new wr 86 #[.int .i64 (f (k * 3)), .int .i64 (f (k * 3 + 1)), .int .i64 (f (k * 3 + 2))]
          have hb1 := hB.alloc hB.size (.cells #[.int .i64 (f (k * 3)), .int .i64 (f (k * 3 + 1)), .int .i64 (f (k * 3 + 2))] 86)
          have hP1 := hP.alloc (.cells #[.int .i64 (f (k * 3)), .int .i64 (f (k * 3 + 1)), .int .i64 (f (k * 3 + 2))] 86)
          obtain ⟨x0, x1, x2⟩ := hX.trio
          obtain ⟨s0, s1, s2⟩ := hP1.trio
          have C1 : Hid (∀ W, _) := Lib.hid fun W => l1In_any (f (k * 3)) 0 (L - 1) W
          have C2 : Hid (∀ W, _) := Lib.hid fun W => l1In_any (f (k * 3 + 1)) 0 ((k : Int) + 1) W
          have C3 : Hid (∀ W, _) := Lib.hid fun W => l1In_any (f (k * 3 + 2)) 0 ((k : Int) + 1) W
          cases e3 : (decide (0 ≤ f (k * 3)) && decide (f (k * 3) ≤ L - 1)) with
          | false =>
            rw [e3] at C1
            have HE := Lib.hid (mt (l1In_iff e3).2 (by simp))
            clear e3
            go_wp2_with (go_at_call 40; refine (C1.out _).mono ?_; rintro e w1 ⟨rfl, rfl⟩)
            go_ret
            exact Yd.no (fun h => HE.out ⟨(h.2.2.2 k hk0).1.1, by have := (h.2.2.2 k hk0).1.2; omega⟩) hb1
          | true =>
            rw [e3] at C1
            have HE1 := Lib.hid ((l1In_iff e3).1 rfl)
            clear e3
            cases e4 : (decide (0 ≤ f (k * 3 + 1)) && decide (f (k * 3 + 1) ≤ (k : Int) + 1)) with
            | false =>
              rw [e4] at C2
              have HE := Lib.hid (mt (l1In_iff e4).2 (by simp))
              clear e4
              go_wp2_with (go_at_call 40; first | (with_reducible refine (C1.out _).mono ?_; rintro e w1 ⟨rfl, rfl⟩) | (with_reducible refine (C2.out _).mono ?_; rintro e w1 ⟨rfl, rfl⟩))
              go_ret
              exact Yd.no (fun h => HE.out ⟨(h.2.2.2 k hk0).2.1.1, by have := (h.2.2.2 k hk0).2.1.2; omega⟩) hb1
            | true =>
              rw [e4] at C2
              have HE2 := Lib.hid ((l1In_iff e4).1 rfl)
              clear e4
              cases e5 : (decide (0 ≤ f (k * 3 + 2)) && decide (f (k * 3 + 2) ≤ (k : Int) + 1)) with
              | false =>
                rw [e5] at C3
                have HE := Lib.hid (mt (l1In_iff e5).2 (by simp))
                clear e5
                go_wp2_with (go_at_call 40; first | (with_reducible refine (C1.out _).mono ?_; rintro e w1 ⟨rfl, rfl⟩) | (with_reducible refine (C2.out _).mono ?_; rintro e w1 ⟨rfl, rfl⟩) | (with_reducible refine (C3.out _).mono ?_; rintro e w1 ⟨rfl, rfl⟩))
                go_ret
                exact Yd.no (fun h => HE.out ⟨(h.2.2.2 k hk0).2.2.1.1, by have := (h.2.2.2 k hk0).2.2.1.2; omega⟩) hb1
              | true =>
                rw [e5] at C3
                have HE3' := Lib.hid ((l1In_iff e5).1 rfl)
                clear e5
                go_wp2_with (go_at_call 40; first | (with_reducible refine (C1.out _).mono ?_; rintro e w1 ⟨rfl, rfl⟩) | (with_reducible refine (C2.out _).mono ?_; rintro e w1 ⟨rfl, rfl⟩) | (with_reducible refine (C3.out _).mono ?_; rintro e w1 ⟨rfl, rfl⟩))
                have hY := Box.new (wr.alloc (.cells #[.int .i64 (f (k * 3)), .int .i64 (f (k * 3 + 1)), .int .i64 (f (k * 3 + 2))] 86)) 3 #[.int .i64 (f (k * 3 + 1)), .int .i64 (f (k * 3 + 2))]
                rw [show (wr.alloc (.cells #[.int .i64 (f (k * 3)), .int .i64 (f (k * 3 + 1)), .int .i64 (f (k * 3 + 2))] 86)).heap.size = wr.heap.size + 1 by simp] at hY
                have hX2 := hX.alloc (.cells #[.int .i64 (f (k * 3 + 1)), .int .i64 (f (k * 3 + 2))] 3)
                have hP2 := hP1.alloc (.cells #[.int .i64 (f (k * 3 + 1)), .int .i64 (f (k * 3 + 2))] 3)
                have hb2 := hb1.alloc (by have := hB.size; simp; omega) (.cells #[.int .i64 (f (k * 3 + 1)), .int .i64 (f (k * 3 + 2))] 3)
                clear x0 x1 x2 s0 s1 s2 q0 q1 q2 r0 r1 r2 C1 C2 C3 hX hP1 hb1 hP hB hb
                generalize hW2 : World.alloc _ _ = W2 at hY hX2 hP2 hb2 ⊢
                clear hW2
                generalize wr.heap.size = sz at hY hX2 ⊢
                go_loopg [64] 2 (fun q iv wx => ∃ j : Nat, j + q = 2 ∧ iv = .int .i64 (j : Nat) ∧ Hid (∀ i, i < j → (2 ≤ rf f k i → f (k * 3) < f (((rf f k i).toNat - 2) * 3))) ∧ Below W2.heap.size W2 wx)
                case atStart => exact ⟨0, by omega, rfl, Lib.hid fun i h => by omega, Below.refl _ _⟩
                case round =>
                  obtain ⟨j, hj, rfl, hqi, hbx⟩ := hrel
                  have hY3 := hY.below hbx hY.lt
                  have hX3 := hX2.below hbx hX2.lt
                  have hP3 := hP2.below hbx hP2.lt
                  have hb3 := hb2.trans (hbx.mono hb2.size)
                  obtain ⟨x0, x1, x2⟩ := hX3.trio
                  obtain ⟨s0, s1, s2⟩ := hP3.trio
                  by_cases hj0 : j < 2
                  · have y : sz + 1 < sz + 2 ∧ (∀ W, Box W (sz + 1) 3 #[.int .i64 (f (k * 3 + 1)), .int .i64 (f (k * 3 + 2))] → W.cell? ⟨sz + 1, j, none⟩ = some (.int .i64 (rf f k j))) := ⟨by omega, fun W h => by
                      rw [h.cell]
                      have : j = 0 ∨ j = 1 := by omega
                      rcases this with rfl | rfl <;> rfl⟩
                    have y1 := y.2 _ hY3
                    clear y
                    have hr : 0 ≤ rf f k j ∧ rf f k j ≤ (k : Int) + 1 := by
                      unfold rf
                      split
                      · exact HE2.out
                      · exact HE3'.out
                    have HR := Lib.hid (rfl : rf f k j = rf f k j)
                    by_cases h1 : rf f k j ≤ 1
                    · have d1 : decide (rf f k j > 1) = false := decide_eq_false (by omega)
                      have d1' : decide (1 < rf f k j) = false := decide_eq_false (by omega)
                      have H1 := Lib.hid h1
                      clear h1 hr
                      go_upto_region 11 with fail
                      go_quiet (fail)
                      go_wp2_with fail
                      go_roundg (gk - 1)
                      case rel => exact ⟨j + 1, by omega, by go_num, Lib.hid fun i hi => by
                        by_cases hij : i < j
                        · exact hqi.out i hij
                        · obtain rfl : i = j := by omega
                          exact fun h => by have := H1.out; omega, below_drewN _ hbx⟩
                      case measure => omega
                    · have d1 : decide (rf f k j > 1) = true := decide_eq_true (by omega)
                      have d1' : decide (1 < rf f k j) = true := decide_eq_true (by omega)
                      have ei : IntKind.i64.wrap (rf f k j - 2) = (((rf f k j).toNat - 2 : Nat) : Int) := by rw [IntWalk.i64_in _ (by omega)]; omega
                      obtain ⟨b5, off5, e5, _, z0, _, _⟩ := (H0.out.below hb3 (Nat.le_refl _)).trio (show (rf f k j).toNat - 2 < n by omega)
                      cases e5
                      have hlt : (rf f k j).toNat - 2 < n := by omega
                      have H1 := Lib.hid h1
                      obtain ⟨t, ht⟩ : ∃ t, t = (rf f k j).toNat - 2 := ⟨_, rfl⟩
                      rw [← ht] at ei z0 hlt
                      have HT := Lib.hid ht
                      clear h1 hr ht
                      by_cases hle : f (t * 3) ≤ f (k * 3)
                      · have d2 : decide (f (t * 3) ≤ f (k * 3)) = true := decide_eq_true hle
                        have HE := Lib.hid hle
                        clear hle
                        go_upto_region 11 with fail
                        go_quiet (fail)
                        go_wp2_with fail
                        go_ret
                        refine Yd.no (fun h => ?_) (below_drewN _ hb3)
                        have h5 : (2 ≤ f (k * 3 + 1) → f (k * 3) < f (((f (k * 3 + 1)).toNat - 2) * 3)) ∧ (2 ≤ f (k * 3 + 2) → f (k * 3) < f (((f (k * 3 + 2)).toNat - 2) * 3)) := by first | exact (h.2.2.2 k hk0).2.2.2 | exact (h.2.2 k hk0).2.2.2
                        have he := HE.out
                        rw [HT.out] at he
                        have h1 := H1.out
                        unfold rf at he h1
                        split at he
                        · rename_i h0; rw [if_pos h0] at h1; have := h5.1 (by omega); omega
                        · rename_i h0; rw [if_neg h0] at h1; have := h5.2 (by omega); omega
                      · have d2 : decide (f (t * 3) ≤ f (k * 3)) = false := decide_eq_false hle
                        have HE := Lib.hid hle
                        clear hle
                        go_upto_region 11 with fail
                        go_quiet (fail)
                        go_wp2_with fail
                        go_roundg (gk - 1)
                        case rel => exact ⟨j + 1, by omega, by go_num, Lib.hid fun i hi => by
                          by_cases hij : i < j
                          · exact hqi.out i hij
                          · obtain rfl : i = j := by omega
                            intro _
                            have := HE.out
                            rw [HT.out] at this
                            omega, below_drewN _ hbx⟩
                        case measure => omega
                  · obtain rfl : j = 2 := by omega
                    go_wp2_with fail
                    go_roundg (n - (k + 1))
                    case rel => exact ⟨k + 1, by omega, by go_num, Lib.hid fun i hi => by
                      by_cases hik : i < k
                      · exact hq.out i hik
                      · obtain rfl : i = k := by omega
                        refine ⟨⟨HE1.out.1, by have := HE1.out.2; omega⟩, ⟨HE2.out.1, by have := HE2.out.2; omega⟩, ⟨HE3'.out.1, by have := HE3'.out.2; omega⟩, ?_, ?_⟩
                        · exact hqi.out 0 (by omega)
                        · exact hqi.out 1 (by omega), hP3, hb3⟩
                    case measure => omega
        · obtain rfl : k = n := by omega
          go_wp2_with fail
          go_ret
          exact Yd.yes ⟨HE1.out, H4.out, ⟨HE3.out.1, by have := HE3.out.2; omega⟩, hq.out⟩ hB

end Go.Proofs.Ytamjfcckgeakfaa
