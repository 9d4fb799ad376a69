/-
  The model's comparison of two natural numbers.
-/
import Derived.Test.YtdjldhkmcmbiiaaDoorSmall
namespace Go.Proofs.YtdjldhkmcmbiiaaDoor
open Go.RowKit Num

set_option maxHeartbeats 400000 in
theorem cmp_ne (aa ab : Option Addr) (la ca lb cb : Nat) (w : World) (ha : la ≤ maxLen) (hb : lb ≤ maxLen) (hne : (la : Int) < lb ∨ (lb : Int) < la) :
    Calls Tryd.prog 89 #[.slice aa la ca, .slice ab lb cb] w fun e w' => e = .returned (.int .i64 (sgn ((la : Int) - lb))) ∧ ∃ nq, w' = w.drewN nq := by
  unfold maxLen at ha hb
  go_enter Tryd.func89, Tryd.ntmps89
  go_wp2_with (go_at_call 123; refine (sign_any _ _).mono ?_; rintro e w' ⟨rfl, rfl⟩)
  go_ret
  exact ⟨rfl, 0, rfl⟩

set_option maxHeartbeats 400000 in
theorem cmp_eq (ba oa ca bb ob cb n : Nat) (d e : Nat → Nat) (w : World) (hn : n ≤ maxLen)
    (hA : ∀ j, j < n → w.cell? ⟨ba, oa + j, none⟩ = some (.int .i64 (d j : Nat))) (hB : ∀ j, j < n → w.cell? ⟨bb, ob + j, none⟩ = some (.int .i64 (e j : Nat)))
    (hd : ∀ j, j < n → d j < 10000) (he : ∀ j, j < n → e j < 10000) (m : Nat) (hm : m ≤ n) (heq : ∀ j, m ≤ j → j < n → d j = e j) (hmne : 0 < m → d (m - 1) ≠ e (m - 1)) :
    Calls Tryd.prog 89 #[.slice (some ⟨ba, oa, none⟩) n ca, .slice (some ⟨bb, ob, none⟩) n cb] w fun e' w' => e' = .returned (.int .i64 (if m = 0 then 0 else sgn ((d (m - 1) : Int) - e (m - 1)))) ∧ ∃ nq, w' = w.drewN nq := by
  unfold maxLen at hn
  have Heq := Lib.hid heq; clear heq
  have Hmne := Lib.hid hmne; clear hmne
  have HA := Lib.hid hA; clear hA
  have HB := Lib.hid hB; clear hB
  have Hd := Lib.hid hd; clear hd
  have He := Lib.hid he; clear he
  go_enter Tryd.func89, Tryd.ntmps89
  go_wp2_with fail
  go_loopw [5] (fun i wr => ∃ k nq : Nat, m ≤ k ∧ k ≤ n ∧ i = .int .i64 ((k : Int) - 1) ∧ wr = w.drewN nq) (fun i _ => ((intOf i) + 1).toNat)
  case atStart => exact ⟨n, 0, by omega, by omega, rfl, rfl⟩
  case round =>
    obtain ⟨k, n0, hk1, hk2, rfl, hwr⟩ := hrel
    have Hwr := Lib.hid hwr; clear hwr
    by_cases hk0 : 1 ≤ k
    · have h1 : wr.cell? ⟨ba, oa + (k - 1), none⟩ = some (.int .i64 (d (k - 1) : Nat)) := by rw [Hwr.out]; exact HA.out (k - 1) (by omega)
      have h2 : wr.cell? ⟨bb, ob + (k - 1), none⟩ = some (.int .i64 (e (k - 1) : Nat)) := by rw [Hwr.out]; exact HB.out (k - 1) (by omega)
      have h3 := Hd.out (k - 1) (by omega)
      have h4 := He.out (k - 1) (by omega)
      by_cases hkm : k = m
      · have hne := Hmne.out (by omega)
        subst hkm
        have hnb : ((d (k - 1) : Int) != (e (k - 1) : Int)) = true := by rw [bne_iff_ne]; omega
        go_wp2_with fail
        go_quiet (fail)
        go_wp2_with fail
        go_quiet ((go_at_call 123; first | exact quiet_left (sign_any _ _) | exact quiet_add_left (sign_any _ _)))
        go_wp2_with fail
        go_ret
        exact ⟨rfl, _, by rw [Hwr.out]; simp only [World.drewN_drewN]; rfl⟩
      · have hq := Heq.out (k - 1) (by omega) (by omega)
        have hnb : ((d (k - 1) : Int) != (e (k - 1) : Int)) = false := by rw [hq]; simp
        have Hq := Lib.hid hq; clear hq
        go_wp2_with fail
        go_quiet (fail)
        go_wp2_with fail
        go_roundw
        case rel => exact ⟨k - 1, _, by omega, by omega, by go_num, by rw [Hwr.out, World.drewN_drewN]⟩
        case measure => simp [intOf]; omega
    · have : k = 0 := by omega
      subst this
      obtain rfl : m = 0 := by omega
      go_wp2_with fail
      go_ret
      exact ⟨rfl, _, Hwr.out⟩

set_option maxHeartbeats 400000 in
theorem cmp_empty (aa ab : Option Addr) (ca cb : Nat) (w : World) :
    Calls Tryd.prog 89 #[.slice aa 0 ca, .slice ab 0 cb] w fun e' w' => e' = .returned (.int .i64 0) ∧ ∃ nq, w' = w.drewN nq := by
  go_enter Tryd.func89, Tryd.ntmps89
  go_wp2_with fail
  refine wp_loop_rounds 1 ?_
  rw [rounds_succ]
  go_wp2_with fail
  go_ret
  exact ⟨rfl, 0, rfl⟩

/-- -1, 0 or 1 as x is less than, equal to or greater than y. -/
def cmpI (x y : Nat) : Int := if x < y then -1 else if y < x then 1 else 0

theorem top_diff (d e : Nat → Nat) (n : Nat) : ∃ m, m ≤ n ∧ (∀ j, m ≤ j → j < n → d j = e j) ∧ (0 < m → d (m - 1) ≠ e (m - 1)) := by
  induction n with
  | zero => exact ⟨0, by omega, fun j _ h => by omega, fun h => by omega⟩
  | succ n ih =>
    by_cases h : d n = e n
    · obtain ⟨m, h1, h2, h3⟩ := ih
      refine ⟨m, by omega, fun j hj hj' => ?_, h3⟩
      by_cases hjn : j = n
      · subst hjn; exact h
      · exact h2 j hj (by omega)
    · exact ⟨n + 1, by omega, fun j _ h' => by omega, fun _ => by simpa using h⟩

theorem take_one_drop (xs : List Nat) (m : Nat) (h : m < xs.length) : xs = xs.take m ++ xs[m] :: xs.drop (m + 1) := by
  rw [← List.drop_eq_getElem_cons h, List.take_append_drop]

theorem top_lt (b x y m : Nat) (hb : 2 ≤ b) (hl : ln b x = ln b y) (hm : m < ln b x) (heq : ∀ j, m + 1 ≤ j → j < ln b x → (digs b x).getD j 0 = (digs b y).getD j 0) (hlt : (digs b x).getD m 0 < (digs b y).getD m 0) : x < y := by
  have hmx : m < (digs b x).length := hm
  have hmy : m < (digs b y).length := by rw [length_digs, ← hl]; exact hm
  rw [getD_eq _ _ hmx, getD_eq _ _ hmy] at hlt
  have hd : (digs b x).drop (m + 1) = (digs b y).drop (m + 1) := by
    apply List.ext_getElem
    · simp only [List.length_drop, length_digs, hl]
    · intro i h1 h2
      simp only [List.length_drop, length_digs] at h1 h2
      have := heq (m + 1 + i) (by omega) (by omega)
      rw [getD_eq _ _ (by rw [length_digs]; omega), getD_eq _ _ (by rw [length_digs]; omega)] at this
      simpa using this
  rw [← val_digs b hb x, ← val_digs b hb y, take_one_drop _ _ hmx, take_one_drop _ _ hmy, hd]
  exact val_lt_of_top b _ _ _ _ _ ((dig_digs b hb x).take _) ((dig_digs b hb y).take _) (by simp only [List.length_take, length_digs, hl]) hlt

theorem digs_inj (b x y : Nat) (hb : 2 ≤ b) (hl : ln b x = ln b y) (h : ∀ j, j < ln b x → (digs b x).getD j 0 = (digs b y).getD j 0) : x = y := by
  rw [← val_digs b hb x, ← val_digs b hb y]
  congr 1
  apply List.ext_getElem (by rw [length_digs, length_digs, hl])
  intro i h1 h2
  have := h i h1
  rwa [getD_eq _ _ h1, getD_eq _ _ h2] at this

theorem getD_lt (b x j : Nat) (hb : 2 ≤ b) : (digs b x).getD j 0 < b := by
  by_cases h : j < (digs b x).length
  · rw [getD_eq _ _ h]; exact (dig_digs b hb x).get j h
  · rw [List.getD, List.getElem?_eq_none (by omega)]; simp; omega

/-- The model's comparison of two numbers. -/
theorem cmpNat_any (va vb : Value) (x y : Nat) (w : World) (ha : Nums 3 .i64 10000 w va x) (hb : Nums 3 .i64 10000 w vb y) :
    Calls Tryd.prog 89 #[va, vb] w fun e w' => e = .returned (.int .i64 (cmpI x y)) ∧ ∃ nq, w' = w.drewN nq := by
  obtain ⟨aa, ca, rfl, hca, ha'⟩ : ∃ aa ca, va = .slice aa (ln 10000 x) ca ∧ ln 10000 x ≤ maxLen ∧ (0 < ln 10000 x → ∃ b off, aa = some ⟨b, off, none⟩ ∧ ∀ j, j < ln 10000 x → w.cell? ⟨b, off + j, none⟩ = some (.int .i64 ((digs 10000 x).getD j 0 : Nat))) := by
    rcases ha with ⟨rfl, h0⟩ | ⟨b, off, cap, rfl, h1, h2, h3, h4⟩
    · exact ⟨none, 0, by rw [h0], by rw [h0]; exact Nat.zero_le _, fun h => by omega⟩
    · exact ⟨_, _, rfl, by omega, fun _ => ⟨b, off, rfl, h4⟩⟩
  obtain ⟨ab, cb, rfl, hcb, hb'⟩ : ∃ aa ca, vb = .slice aa (ln 10000 y) ca ∧ ln 10000 y ≤ maxLen ∧ (0 < ln 10000 y → ∃ b off, aa = some ⟨b, off, none⟩ ∧ ∀ j, j < ln 10000 y → w.cell? ⟨b, off + j, none⟩ = some (.int .i64 ((digs 10000 y).getD j 0 : Nat))) := by
    rcases hb with ⟨rfl, h0⟩ | ⟨b, off, cap, rfl, h1, h2, h3, h4⟩
    · exact ⟨none, 0, by rw [h0], by rw [h0]; exact Nat.zero_le _, fun h => by omega⟩
    · exact ⟨_, _, rfl, by omega, fun _ => ⟨b, off, rfl, h4⟩⟩
  by_cases hl : ln 10000 x = ln 10000 y
  · by_cases h0 : ln 10000 x = 0
    · have hx := (ln_eq_zero 10000 x (by omega)).1 h0
      have hy := (ln_eq_zero 10000 y (by omega)).1 (by omega)
      subst hx; subst hy
      exact cmp_empty _ _ _ _ _
    · obtain ⟨ba, oa, rfl, hA⟩ := ha' (by omega)
      obtain ⟨bb, ob, rfl, hB⟩ := hb' (by omega)
      obtain ⟨m, h1, h2, h3⟩ := top_diff (fun j => (digs 10000 x).getD j 0) (fun j => (digs 10000 y).getD j 0) (ln 10000 x)
      rw [← hl] at hB ⊢
      refine (cmp_eq ba oa ca bb ob cb (ln 10000 x) _ _ w hca hA hB (fun j _ => getD_lt _ _ _ (by omega)) (fun j _ => getD_lt _ _ _ (by omega)) m h1 h2 h3).mono fun e w' ⟨he, hw⟩ => ⟨?_, hw⟩
      rw [he]
      apply ret_int
      by_cases hm : m = 0
      · subst hm
        have : x = y := digs_inj 10000 x y (by omega) hl fun j hj => h2 j (Nat.zero_le _) hj
        subst this
        simp [cmpI]
      · rw [if_neg hm]
        have h3' := h3 (by omega)
        rcases Nat.lt_or_gt_of_ne h3' with hlt | hgt
        · have hxy := top_lt 10000 x y (m - 1) (by omega) hl (by omega) (fun j hj hj' => h2 j (by omega) hj') hlt
          rw [cmpI, if_pos hxy, sgn, if_pos (by omega)]
        · have hxy := top_lt 10000 y x (m - 1) (by omega) hl.symm (by omega) (fun j hj hj' => (h2 j (by omega) (by omega)).symm) hgt
          rw [cmpI, if_neg (by omega), if_pos hxy, sgn, if_neg (by omega), if_pos (by omega)]
  · refine (cmp_ne aa ab _ ca _ cb w hca hcb (by omega)).mono fun e w' ⟨he, hw⟩ => ⟨?_, hw⟩
    rw [he]
    apply ret_int
    rcases Nat.lt_or_gt_of_ne hl with hlt | hgt
    · have := lt_of_ln_lt 10000 x y (by omega) hlt
      rw [cmpI, if_pos this, sgn, if_pos (by omega)]
    · have := lt_of_ln_lt 10000 y x (by omega) hgt
      rw [cmpI, if_neg (by omega), if_pos this, sgn, if_neg (by omega), if_pos (by omega)]

end Go.Proofs.YtdjldhkmcmbiiaaDoor
