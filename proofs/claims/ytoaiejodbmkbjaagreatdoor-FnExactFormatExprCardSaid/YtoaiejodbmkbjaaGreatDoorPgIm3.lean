/-
  The program's test of a statement's choices.
-/
import Derived.Test.YtoaiejodbmkbjaaGreatDoorPgIm2
namespace Go.Proofs.YtoaiejodbmkbjaaGreatDoor
open Go.RowKit Num

theorem chs_few {s : Stm} {sz : Int} (h : ChsOk s sz) (hz : sz ≤ 4) : s.nc ≤ 4 := by
  have hj : ∀ j, j < s.nc → (j : Int) ≤ (s.ch j).1 := by
    intro j
    induction j with
    | zero => intro hj; exact (h.1 0 hj).1.1
    | succ j ih =>
      intro hj
      have h1 := ih (by omega)
      have h2 := (h.1 (j + 1) hj).2.2 (by omega)
      rw [Nat.add_sub_cancel] at h2
      omega
  have h0 := h.2
  have h1 := hj (s.nc - 1) (by omega)
  have h2 := (h.1 (s.nc - 1) (by omega)).1.2
  omega

set_option maxRecDepth 100000 in
set_option maxHeartbeats 3200000 in
theorem implChs_any (lo : Nat) (s : Stm) (sz : Int) (A3 : Option Addr) (c3 : Nat) (w : World) (hs : s.small) (hz : sz ≤ 4) (h3 : ChAt lo w A3 s.nc s.ch) :
    Calls Tryz.prog 70 #[.slice A3 s.nc c3, .int .i64 sz] w (Yn (ChsOk s sz) w) := by
  have HC := Lib.hid h3
  have hnc := hs.nc
  have HF := Lib.hid (fun h : ChsOk s sz => chs_few h hz)
  clear h3 hs
  by_cases hn : 1 ≤ s.nc ∧ s.nc ≤ 4
  · have hd1 : decide ((s.nc : Int) < 1) = false := decide_eq_false (by omega)
    have hd2 : decide ((4 : Int) < (s.nc : Int)) = false := decide_eq_false (by omega)
    go_enter Tryz.func70, Tryz.ntmps70
    go_wp2_with fail
    all_goals first
      | (exfalso; omega)
      | skip
    clear hd1 hd2
    go_loopg [17] s.nc (fun q iv wr => ∃ k : Nat, k + q = s.nc ∧ iv = .int .i64 (k : Nat) ∧ Hid (∀ j, j < k → ChOk s sz j) ∧ Below w.heap.size w wr)
    case atStart => exact ⟨0, by omega, rfl, Lib.hid fun j h => by omega, Below.refl _ _⟩
    case round =>
      rename World => w2
      obtain ⟨k, hk, rfl, hq, hbel⟩ := hrel
      by_cases hk0 : k < s.nc
      · obtain ⟨b, off, rfl, hb, r0, r1⟩ := (HC.out.below hbel (Nat.le_refl _)).at_ hk0
        have hal := (Below.refl w2.heap.size w2).alloc (Nat.le_refl _) (.cells #[.int .i64 (s.ch k).1, .int .i64 (s.ch k).2] 119)
        have hX := Box.new w2 119 #[.int .i64 (s.ch k).1, .int .i64 (s.ch k).2]
        obtain ⟨v0, v1, _, _⟩ := hX.two
        cases e1 : decide (0 ≤ (s.ch k).1 ∧ (s.ch k).1 < sz) with
        | false =>
          have C1 : Hid (∀ W, Calls Tryz.prog 24 #[.int .i64 (s.ch k).1, .int .i64 sz] W fun e w' => e = .returned (.bool false) ∧ W = w') := Lib.hid fun W => by rw [← e1]; exact idx_any _ _ W
          have E1 := Lib.hid (of_decide_eq_false e1)
          clear e1
          go_wp2_with (go_at_call 24; refine (C1.out _).mono ?_; rintro e w' ⟨rfl, rfl⟩)
          go_ret
          exact Yn.no (fun h => E1.out (by have := (h.1 k hk0).1; omega)) (hbel.trans (hal.mono hbel.size))
        | true =>
          have C1 : Hid (∀ W, Calls Tryz.prog 24 #[.int .i64 (s.ch k).1, .int .i64 sz] W fun e w' => e = .returned (.bool true) ∧ W = w') := Lib.hid fun W => by rw [← e1]; exact idx_any _ _ W
          have E1 := Lib.hid (of_decide_eq_true e1)
          clear e1
          by_cases h2 : 1 ≤ (s.ch k).2 ∧ (s.ch k).2 ≤ 12
          · have f1 : decide ((s.ch k).2 < 1) = false := decide_eq_false (by omega)
            have f2 : decide (12 < (s.ch k).2) = false := decide_eq_false (by omega)
            have E2 := Lib.hid h2
            clear h2
            have hAl := (HC.out.below hbel (Nat.le_refl _)).below hal (Nat.le_refl _)
            go_upto_region 8 with (go_at_call 24; refine (C1.out _).mono ?_; rintro e w' ⟨rfl, rfl⟩)
            replace hbel := hbel.trans (hal.mono hbel.size)
            obtain ⟨w3, hw3⟩ : ∃ w3, w3 = w2.alloc (.cells #[.int .i64 (s.ch k).1, .int .i64 (s.ch k).2] 119) := ⟨_, rfl⟩
            rw [← hw3] at hX hbel hAl ⊢
            clear hw3 hal r0 r1 f1 f2
            obtain ⟨v0, v1, _, _⟩ := hX.two
            by_cases hz0 : k = 0
            · subst hz0
              go_quiet (fail)
              go_wp2_with fail
              go_roundg (gk - 1)
              case rel => exact ⟨1, by omega, by go_num, Lib.hid fun j hj => by
                obtain rfl : j = 0 := by omega
                exact ⟨by have := E1.out; omega, E2.out, fun h => absurd h (Nat.lt_irrefl 0)⟩, below_drewN _ hbel⟩
              case measure => omega
            · obtain ⟨m, rfl⟩ : ∃ m, k = m + 1 := ⟨k - 1, by omega⟩
              obtain ⟨b3, off3, e3, hb3, p0, p1⟩ := hAl.at_ (show m < s.nc by omega)
              injection e3 with e3
              injection e3 with e4 e5 _
              subst e4 e5
              have hwk : IntKind.i64.wrap ((m : Int) + 1 - 1) = (m : Int) := IntWalk.i64_in _ (by omega) |>.trans (by omega)
              have hwk2 : IntKind.i64.wrap (m : Int) = (m : Int) := IntWalk.i64_in _ (by omega)
              have hpos : decide ((0 : Int) < (m : Int) + 1) = true := decide_eq_true (by omega)
              have hmn : m < s.nc := by omega
              have hmz : (0 : Int) ≤ (m : Int) := by omega
              have hmi : (m : Int) < (s.nc : Int) := by omega
              clear hz0
              cases e6 : decide ((s.ch (m + 1)).1 ≤ (s.ch m).1) with
              | true =>
                have E6 := Lib.hid (of_decide_eq_true e6)
                go_quiet (fail)
                go_wp2_with fail
                go_ret
                exact Yn.no (fun h => by have h1 := (h.1 (m + 1) hk0).2.2 (by omega); rw [Nat.add_sub_cancel] at h1; have := E6.out; omega) (below_drewN _ hbel)
              | false =>
                have E6 := Lib.hid (of_decide_eq_false e6)
                go_quiet (fail)
                go_wp2_with fail
                go_roundg (gk - 1)
                case rel => exact ⟨m + 2, by omega, by go_num, Lib.hid fun j hj => by
                  by_cases hjk : j < m + 1
                  · exact hq.out j hjk
                  · obtain rfl : j = m + 1 := by omega
                    exact ⟨by have := E1.out; omega, E2.out, fun _ => by have := E6.out; rw [Nat.add_sub_cancel]; omega⟩, below_drewN _ hbel⟩
                case measure => omega
          · have E2 := Lib.hid h2
            have f1 : decide ((s.ch k).2 < 1) = true ∨ (decide ((s.ch k).2 < 1) = false ∧ decide (12 < (s.ch k).2) = true) := by
              by_cases h : (s.ch k).2 < 1
              · exact .inl (decide_eq_true h)
              · exact .inr ⟨decide_eq_false h, decide_eq_true (by omega)⟩
            clear h2
            rcases f1 with f1 | ⟨f1, f2⟩
            all_goals go_wp2_with (go_at_call 24; refine (C1.out _).mono ?_; rintro e w' ⟨rfl, rfl⟩)
            all_goals go_ret
            all_goals exact Yn.no (fun h => E2.out (h.1 k hk0).2.1) (hbel.trans (hal.mono hbel.size))
      · obtain rfl : k = s.nc := by omega
        go_wp2_with fail
        go_ret
        exact Yn.yes ⟨hq.out, by omega⟩ hbel
  · have HN := Lib.hid hn
    have f1 : decide ((s.nc : Int) < 1) = true ∨ (decide ((s.nc : Int) < 1) = false ∧ decide ((4 : Int) < (s.nc : Int)) = true) := by
      by_cases h : s.nc < 1
      · exact .inl (decide_eq_true (by omega))
      · exact .inr ⟨decide_eq_false (by omega), decide_eq_true (by omega)⟩
    clear hn
    rcases f1 with f1 | ⟨f1, f2⟩
    all_goals go_enter Tryz.func70, Tryz.ntmps70
    all_goals go_wp2_with fail
    all_goals first
      | (go_ret
         exact Yn.no (fun h => HN.out ⟨by have := h.2; omega, HF.out h⟩) (Below.refl _ _))
      | (exfalso; simp at f1; omega)
      | (exfalso; simp at f1 f2; omega)

end Go.Proofs.YtoaiejodbmkbjaaGreatDoor
