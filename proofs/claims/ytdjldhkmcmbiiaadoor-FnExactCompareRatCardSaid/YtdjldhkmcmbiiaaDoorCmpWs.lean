/-
  Several texts in one: CmpW, IsOneW.
-/
import Derived.Test.YtdjldhkmcmbiiaaDoorCmp
import Derived.Test.YtdjldhkmcmbiiaaDoorTrimW
/-
  The program's comparison of two natural numbers in words.
-/
namespace Go.Proofs.YtdjldhkmcmbiiaaDoor
open Go.RowKit Num

set_option maxHeartbeats 400000 in
theorem cmpW_ne (aa ab : Option Addr) (la ca lb cb : Nat) (w : World) (hne : (la : Int) < lb ∨ (lb : Int) < la) :
    Calls Tryd.prog 93 #[.slice aa la ca, .slice ab lb cb] w fun e w' => e = .returned (.int .i64 (sgn ((la : Int) - lb))) ∧ ∃ nq, w' = w.drewN nq := by
  by_cases hl : la < lb
  · have hs : sgn ((la : Int) - lb) = -1 := by rw [sgn, if_pos (by omega)]
    rw [hs]
    go_enter Tryd.func93, Tryd.ntmps93
    go_wp2_with fail
    go_ret
    exact ⟨rfl, 0, rfl⟩
  · have hs : sgn ((la : Int) - lb) = 1 := by rw [sgn, if_neg (by omega), if_pos (by omega)]
    rw [hs]
    go_enter Tryd.func93, Tryd.ntmps93
    go_wp2_with fail
    go_ret
    exact ⟨rfl, 0, rfl⟩

set_option maxHeartbeats 400000 in
theorem cmpW_eq (ba oa ca bb ob cb n : Nat) (d e : Nat → Nat) (w : World) (hn : n ≤ maxLen)
    (hA : ∀ j, j < n → w.cell? ⟨ba, oa + j, none⟩ = some (.int .u64 (d j : Nat))) (hB : ∀ j, j < n → w.cell? ⟨bb, ob + j, none⟩ = some (.int .u64 (e j : Nat)))
    (m : Nat) (hm : m ≤ n) (heq : ∀ j, m ≤ j → j < n → d j = e j) (hmne : 0 < m → d (m - 1) ≠ e (m - 1)) :
    Calls Tryd.prog 93 #[.slice (some ⟨ba, oa, none⟩) n ca, .slice (some ⟨bb, ob, none⟩) n cb] w fun e' w' => e' = .returned (.int .i64 (if m = 0 then 0 else sgn ((d (m - 1) : Int) - e (m - 1)))) ∧ ∃ nq, w' = w.drewN nq := by
  unfold maxLen at hn
  have Heq := Lib.hid heq; clear heq
  have Hmne := Lib.hid hmne; clear hmne
  have HA := Lib.hid hA; clear hA
  have HB := Lib.hid hB; clear hB
  go_enter Tryd.func93, Tryd.ntmps93
  go_wp2_with fail
  go_loopw [5] (fun i wr => ∃ k nq : Nat, m ≤ k ∧ k ≤ n ∧ i = .int .i64 ((k : Int) - 1) ∧ wr = w.drewN nq) (fun i _ => ((intOf i) + 1).toNat)
  case atStart => exact ⟨n, 0, by omega, by omega, rfl, rfl⟩
  case round =>
    obtain ⟨k, n0, hk1, hk2, rfl, hwr⟩ := hrel
    have Hwr := Lib.hid hwr; clear hwr
    by_cases hk0 : 1 ≤ k
    · have h1 : wr.cell? ⟨ba, oa + (k - 1), none⟩ = some (.int .u64 (d (k - 1) : Nat)) := by rw [Hwr.out]; exact HA.out (k - 1) (by omega)
      have h2 : wr.cell? ⟨bb, ob + (k - 1), none⟩ = some (.int .u64 (e (k - 1) : Nat)) := by rw [Hwr.out]; exact HB.out (k - 1) (by omega)
      by_cases hkm : k = m
      · have hne := Hmne.out (by omega)
        subst hkm
        have hnb : ((d (k - 1) : Int) != (e (k - 1) : Int)) = true := by rw [bne_iff_ne]; omega
        have hk00 : ¬ k = 0 := by omega
        by_cases hlt : d (k - 1) < e (k - 1)
        · have hs : sgn ((d (k - 1) : Int) - e (k - 1)) = -1 := by rw [sgn, if_pos (by omega)]
          have hdl : decide ((d (k - 1) : Int) < (e (k - 1) : Int)) = true := by rw [decide_eq_true_iff]; omega
          go_wp2_with fail
          go_quiet (fail)
          go_wp2_with fail
          go_quiet (fail)
          go_wp2_with fail
          go_ret
          exact ⟨rfl, _, by rw [Hwr.out]; simp only [World.drewN_drewN]; rfl⟩
        · have hs : sgn ((d (k - 1) : Int) - e (k - 1)) = 1 := by rw [sgn, if_neg (by omega), if_pos (by omega)]
          have hdl : decide ((d (k - 1) : Int) < (e (k - 1) : Int)) = false := by rw [decide_eq_false_iff_not]; omega
          go_wp2_with fail
          go_quiet (fail)
          go_wp2_with fail
          go_quiet (fail)
          go_wp2_with fail
          go_ret
          exact ⟨rfl, _, by rw [Hwr.out]; simp only [World.drewN_drewN]; rfl⟩
      · have hq := Heq.out (k - 1) (by omega) (by omega)
        have hnb : ((d (k - 1) : Int) != (e (k - 1) : Int)) = false := by rw [hq]; simp
        have Hq := Lib.hid hq; clear hq
        go_wp2_with fail
        go_quiet (fail)
        go_wp2_with fail
        go_roundw
        case rel => exact ⟨k - 1, _, by omega, by omega, by go_num, by rw [Hwr.out, World.drewN_drewN]⟩
        case measure => simp [intOf]; omega
    · have : k = 0 := by omega
      subst this
      obtain rfl : m = 0 := by omega
      go_wp2_with fail
      go_ret
      exact ⟨rfl, _, Hwr.out⟩

set_option maxHeartbeats 400000 in
theorem cmpW_empty (aa ab : Option Addr) (ca cb : Nat) (w : World) :
    Calls Tryd.prog 93 #[.slice aa 0 ca, .slice ab 0 cb] w fun e' w' => e' = .returned (.int .i64 0) ∧ ∃ nq, w' = w.drewN nq := by
  go_enter Tryd.func93, Tryd.ntmps93
  go_wp2_with fail
  refine wp_loop_rounds 1 ?_
  rw [rounds_succ]
  go_wp2_with fail
  go_ret
  exact ⟨rfl, 0, rfl⟩

/-- The program's comparison of two numbers. -/
theorem cmpW_any (va vb : Value) (x y : Nat) (w : World) (ha : Nums 94 .u64 WB w va x) (hb : Nums 94 .u64 WB w vb y) :
    Calls Tryd.prog 93 #[va, vb] w fun e w' => e = .returned (.int .i64 (cmpI x y)) ∧ ∃ nq, w' = w.drewN nq := by
  obtain ⟨aa, ca, rfl, hca, ha'⟩ : ∃ aa ca, va = .slice aa (ln WB x) ca ∧ ln WB x ≤ maxLen ∧ (0 < ln WB x → ∃ b off, aa = some ⟨b, off, none⟩ ∧ ∀ j, j < ln WB x → w.cell? ⟨b, off + j, none⟩ = some (.int .u64 ((digs WB x).getD j 0 : Nat))) := by
    rcases ha with ⟨rfl, h0⟩ | ⟨b, off, cap, rfl, h1, h2, h3, h4⟩
    · exact ⟨none, 0, by rw [h0], by rw [h0]; exact Nat.zero_le _, fun h => by omega⟩
    · exact ⟨_, _, rfl, by omega, fun _ => ⟨b, off, rfl, h4⟩⟩
  obtain ⟨ab, cb, rfl, hcb, hb'⟩ : ∃ aa ca, vb = .slice aa (ln WB y) ca ∧ ln WB y ≤ maxLen ∧ (0 < ln WB y → ∃ b off, aa = some ⟨b, off, none⟩ ∧ ∀ j, j < ln WB y → w.cell? ⟨b, off + j, none⟩ = some (.int .u64 ((digs WB y).getD j 0 : Nat))) := by
    rcases hb with ⟨rfl, h0⟩ | ⟨b, off, cap, rfl, h1, h2, h3, h4⟩
    · exact ⟨none, 0, by rw [h0], by rw [h0]; exact Nat.zero_le _, fun h => by omega⟩
    · exact ⟨_, _, rfl, by omega, fun _ => ⟨b, off, rfl, h4⟩⟩
  have h2 := WB_two
  by_cases hl : ln WB x = ln WB y
  · by_cases h0 : ln WB x = 0
    · have hx := (ln_eq_zero WB x h2).1 h0
      have hy := (ln_eq_zero WB y h2).1 (by omega)
      subst hx; subst hy
      exact cmpW_empty _ _ _ _ _
    · obtain ⟨ba, oa, rfl, hA⟩ := ha' (by omega)
      obtain ⟨bb, ob, rfl, hB⟩ := hb' (by omega)
      obtain ⟨m, h1, h3, h4⟩ := top_diff (fun j => (digs WB x).getD j 0) (fun j => (digs WB y).getD j 0) (ln WB x)
      rw [← hl] at hB ⊢
      refine (cmpW_eq ba oa ca bb ob cb (ln WB x) _ _ w hca hA hB m h1 h3 h4).mono fun e w' ⟨he, hw⟩ => ⟨?_, hw⟩
      rw [he]
      apply ret_int
      by_cases hm : m = 0
      · subst hm
        have : x = y := digs_inj WB x y h2 hl fun j hj => h3 j (Nat.zero_le _) hj
        subst this
        simp [cmpI]
      · rw [if_neg hm]
        have h4' := h4 (by omega)
        rcases Nat.lt_or_gt_of_ne h4' with hlt | hgt
        · have hxy := top_lt WB x y (m - 1) h2 hl (by omega) (fun j hj hj' => h3 j (by omega) hj') hlt
          rw [cmpI, if_pos hxy, sgn, if_pos (by omega)]
        · have hxy := top_lt WB y x (m - 1) h2 hl.symm (by omega) (fun j hj hj' => (h3 j (by omega) (by omega)).symm) hgt
          rw [cmpI, if_neg (by omega), if_pos hxy, sgn, if_neg (by omega), if_pos (by omega)]
  · refine (cmpW_ne aa ab _ ca _ cb w (by omega)).mono fun e w' ⟨he, hw⟩ => ⟨?_, hw⟩
    rw [he]
    apply ret_int
    rcases Nat.lt_or_gt_of_ne hl with hlt | hgt
    · have := lt_of_ln_lt WB x y h2 hlt
      rw [cmpI, if_pos this, sgn, if_pos (by omega)]
    · have := lt_of_ln_lt WB y x h2 hgt
      rw [cmpI, if_neg (by omega), if_pos this, sgn, if_neg (by omega), if_pos (by omega)]

end Go.Proofs.YtdjldhkmcmbiiaaDoor
/-
  The program's test whether a natural number is 1.
-/
namespace Go.Proofs.YtdjldhkmcmbiiaaDoor
open Go.RowKit Num

theorem ln_one_iff (x : Nat) : (ln WB x = 1 ∧ (digs WB x).getD 0 0 = 1) ↔ x = 1 := by
  have h2 := WB_two
  constructor
  · rintro ⟨h1, h3⟩
    have hl : (digs WB x).length = 1 := h1
    have hv := val_digs WB h2 x
    match hd : digs WB x, hl with
    | [a], _ =>
      rw [hd] at hv h3
      simp at h3
      subst h3
      rw [← hv]
      simp [val]
  · rintro rfl
    have : digs WB 1 = [1] := digs_small WB 1 h2 (by omega) (by unfold WB; omega)
    exact ⟨by rw [← length_digs, this]; rfl, by rw [this]; rfl⟩

set_option maxHeartbeats 400000 in
theorem isOneW_any (v : Value) (x : Nat) (w : World) (hv : Nums 94 .u64 WB w v x) :
    Calls Tryd.prog 83 #[v] w fun e w' => e = .returned (.bool (decide (x = 1))) ∧ ∃ nq, w' = w.drewN nq := by
  obtain ⟨A1, cap, rfl, hc, hm, hrow⟩ := RowF.open hv
  by_cases h1 : ln WB x = 1
  · obtain ⟨b, off, rfl, _, hcell⟩ := hrow (by omega)
    have h0 : w.cell? ⟨b, off, none⟩ = some (.int .u64 ((digs WB x).getD 0 0 : Nat)) := hcell 0 (by omega)
    rw [h1]
    by_cases hd : (digs WB x).getD 0 0 = 1
    · have hx : decide (x = 1) = true := by rw [decide_eq_true_iff]; exact (ln_one_iff x).1 ⟨h1, hd⟩
      rw [hx]
      rw [hd] at h0
      clear hd h1 hcell hrow hv hx
      go_enter Tryd.func83, Tryd.ntmps83
      go_wp2_with fail
      go_ret
      exact ⟨rfl, 0, rfl⟩
    · have hx : decide (x = 1) = false := by rw [decide_eq_false_iff_not]; intro e; exact hd ((ln_one_iff x).2 e).2
      rw [hx]
      obtain ⟨d, hd'⟩ : ∃ d, d = (digs WB x).getD 0 0 := ⟨_, rfl⟩
      rw [← hd'] at h0 hd
      have hb : ((d : Int) == 1) = false := by rw [beq_eq_false_iff_ne]; omega
      clear h1 hcell hrow hv hx hd'
      go_enter Tryd.func83, Tryd.ntmps83
      go_wp2_with fail
      go_ret
      exact ⟨rfl, 0, rfl⟩
  · have hx : decide (x = 1) = false := by rw [decide_eq_false_iff_not]; intro e; exact h1 ((ln_one_iff x).2 e).1
    rw [hx]
    obtain ⟨n, hn⟩ : ∃ n, n = ln WB x := ⟨_, rfl⟩
    rw [← hn] at h1 ⊢
    have hb : ((n : Int) == 1) = false := by rw [beq_eq_false_iff_ne]; omega
    clear hrow hv hx hn
    go_enter Tryd.func83, Tryd.ntmps83
    go_wp2_with fail
    go_ret
    exact ⟨rfl, 0, rfl⟩

end Go.Proofs.YtdjldhkmcmbiiaaDoor
