/-
  The model's sum and difference of two natural numbers.
-/
import Derived.Test.YtdjldhkmcmbiiaaDoorFromInt
namespace Go.Proofs.YtdjldhkmcmbiiaaDoor
open Go.RowKit Num

theorem top_le (b x k : Nat) (hb : 2 ≤ b) (h : k < ln b x) : b ^ k ≤ x := by
  have hx : 0 < x := by
    rcases Nat.eq_zero_or_pos x with rfl | h'
    · simp [ln_zero] at h
    · exact h'
  exact Nat.le_trans (Nat.pow_le_pow_right (by omega) (by omega)) (pow_ln_le b x hb hx)

theorem add_end (x y k : Nat) (pre : List Nat) (hl : pre.length = k) (hx : ln 10000 x ≤ k) (hy : ln 10000 y ≤ k) (hv : val 10000 pre + 0 * 10000 ^ k = x % 10000 ^ k + y % 10000 ^ k)
    (hk : k ≤ ln 10000 x ∨ k ≤ ln 10000 y ∨ 10000 ^ (k - 1) ≤ x + y) : val 10000 pre = x + y ∧ (pre ≠ [] → 10000 ^ (pre.length - 1) ≤ val 10000 pre) := by
  rw [mod_pow_ln _ x k (by omega) hx, mod_pow_ln _ y k (by omega) hy] at hv
  have hv' : val 10000 pre = x + y := by omega
  refine ⟨hv', fun hne => ?_⟩
  have hpos : 0 < k := by
    cases pre with
    | nil => exact absurd rfl hne
    | cons _ _ => simp at hl; omega
  rw [hv', hl]
  rcases hk with h | h | h
  · exact Nat.le_trans (top_le _ x (k - 1) (by omega) (by omega)) (by omega)
  · exact Nat.le_trans (top_le _ y (k - 1) (by omega) (by omega)) (by omega)
  · exact h

theorem carry_out {x y k v : Nat} (hx : ln 10000 x ≤ k) (hy : ln 10000 y ≤ k) (hv : v + 1 * 10000 ^ k = x % 10000 ^ k + y % 10000 ^ k) : 10000 ^ (k + 1 - 1) ≤ x + y := by
  rw [mod_pow_ln _ x k (by omega) hx, mod_pow_ln _ y k (by omega) hy] at hv
  simp only [Nat.add_sub_cancel]
  omega

set_option maxHeartbeats 1600000 in
theorem addNat_any (va vb : Value) (x y : Nat) (w : World) (ha : Nums 3 .i64 10000 w va x) (hb : Nums 3 .i64 10000 w vb y) (hlx : ln 10000 x ≤ 1099511627776) (hly : ln 10000 y ≤ 1099511627776) :
    Calls Tryd.prog 88 #[va, vb] w fun e w' => (∃ v, e = .returned v ∧ Nums 3 .i64 10000 w' v (x + y)) ∧ Below w.heap.size w w' := by
  obtain ⟨i0, hi, hz0, hz1, hz2⟩ := info_parts Tryd.info_int
  obtain ⟨Aa, ca, rfl, hca, hca', hA⟩ := RowF.open ha
  obtain ⟨Ab, cb, rfl, hcb, hcb', hB⟩ := RowF.open hb
  clear ha hb
  have HA : Hid (RowA .i64 w Aa (ln 10000 x) (dg 10000 x)) := Lib.hid hA; clear hA
  have HB : Hid (RowA .i64 w Ab (ln 10000 y) (dg 10000 y)) := Lib.hid hB; clear hB
  obtain ⟨la, hla⟩ : ∃ la, la = ln 10000 x := ⟨_, rfl⟩
  obtain ⟨lb, hlb⟩ : ∃ lb, lb = ln 10000 y := ⟨_, rfl⟩
  rw [← hla] at HA hca hlx ⊢
  rw [← hlb] at HB hcb hly ⊢
  have Hla := Lib.hid hla; clear hla
  have Hlb := Lib.hid hlb; clear hlb
  go_enter Tryd.func88, Tryd.ntmps88
  go_wp2_with fail
  go_loopw [5, 6, 7] (fun v c i wr => ∃ (cn k : Nat) (pre : List Nat), c = .int .i64 (cn : Nat) ∧ cn ≤ 1 ∧ i = .int .i64 (k : Nat) ∧ pre.length = k ∧ Dig 10000 pre ∧ val 10000 pre + cn * 10000 ^ k = x % 10000 ^ k + y % 10000 ^ k ∧ (k ≤ la ∨ k ≤ lb ∨ (cn = 0 ∧ 10000 ^ (k - 1) ≤ x + y ∧ (k ≤ la + 1 ∨ k ≤ lb + 1))) ∧ wr.ownsRow w.heap.size 3 1 v pre.length (pre.map fun x => .int .i64 (x : Nat)) ∧ Below w.heap.size w wr) (fun _ _ i _ => max la lb + 1 - (intOf i).toNat)
  case atStart => exact ⟨0, 0, [], rfl, by omega, rfl, rfl, (fun x hx => by cases hx), by simp [val, Nat.mod_one], by omega, World.ownsRow_nil _ _ _ _, Below.refl _ _⟩
  case round =>
    obtain ⟨cn, k, pre, rfl, hcn, rfl, hlen, hdig, hval, hkk, hown, hbel⟩ := hrel
    have hsz := hbel.size
    have hpl : pre.length ≤ 1099511627777 := by omega
    have Hlen := Lib.hid hlen; clear hlen
    have Hdig := Lib.hid hdig; clear hdig
    have Hval := Lib.hid hval; clear hval
    have Hkk := Lib.hid hkk
    have hk' : k ≤ la + 1 ∨ k ≤ lb + 1 := by omega
    clear hkk
    by_cases hka : k < la
    · obtain ⟨ba, oa, rfl, hcA⟩ := (HA.out.below hbel (Nat.le_refl _)).at_ hka
      have hdA := dg_lt 10000 x k (by omega)
      by_cases hkb : k < lb
      · obtain ⟨bb, ob, rfl, hcB⟩ := (HB.out.below hbel (Nat.le_refl _)).at_ hkb
        have hdB := dg_lt 10000 y k (by omega)
        have Hex : Hid (True) := Lib.hid trivial
        go_wp2_with (at_builtin; refine wpList_append_own _ rfl _ _ 51 rfl w.heap.size 3 i0 (.int .i64 0) 1 8 Tryd.underlying51 hi hz0 hz1 hz2 rfl (by decide) _ _ _ rfl (hown.alloc _) ⟨wr.heap.size, 0, none⟩ 1 1 [.int .i64 (((cn : Int) + (dg 10000 x k : Nat) + (dg 10000 y k : Nat)) % 10000)] rfl rfl (cell_one_new _ _ _) (one_int _ _) (by unfold maxLen; omega) (by omega) (by simp; omega) ?_; intro v' w1 hown' hgrow _)
        have hb1 := below_grown_own hbel hbel.size (Nat.le_refl _) hown hgrow
        have ho1 := own_snoc (y := (cn + dg 10000 x k + dg 10000 y k) % 10000) (by omega) hown'
        clear hown' hgrow hown hbel
        go_wp2_with fail
        go_roundw
        case rel => exact ⟨(cn + dg 10000 x k + dg 10000 y k) / 10000, k + 1, pre ++ [(cn + dg 10000 x k + dg 10000 y k) % 10000], by go_num, by omega, by go_num, by rw [List.length_append, Hlen.out]; rfl, Hdig.out.snoc (Nat.mod_lt _ (by omega)), by rw [val_snoc, Hlen.out, mod_pow_succ _ x k (by omega), mod_pow_succ _ y k (by omega), Nat.pow_succ]; exact add_step Hval.out (by have := Hex.out; omega), by omega, ho1, hb1⟩
        case measure => simp [intOf]; omega
      · have Hex : Hid (dg 10000 y k = 0) := Lib.hid (dg_high 10000 y k (by omega) (by rw [← Hlb.out]; omega))
        go_wp2_with (at_builtin; refine wpList_append_own _ rfl _ _ 51 rfl w.heap.size 3 i0 (.int .i64 0) 1 8 Tryd.underlying51 hi hz0 hz1 hz2 rfl (by decide) _ _ _ rfl (hown.alloc _) ⟨wr.heap.size, 0, none⟩ 1 1 [.int .i64 (((cn : Int) + (dg 10000 x k : Nat)) % 10000)] rfl rfl (cell_one_new _ _ _) (one_int _ _) (by unfold maxLen; omega) (by omega) (by simp; omega) ?_; intro v' w1 hown' hgrow _)
        have hb1 := below_grown_own hbel hbel.size (Nat.le_refl _) hown hgrow
        have ho1 := own_snoc (y := (cn + dg 10000 x k) % 10000) (by omega) hown'
        clear hown' hgrow hown hbel
        go_wp2_with fail
        go_roundw
        case rel => exact ⟨(cn + dg 10000 x k) / 10000, k + 1, pre ++ [(cn + dg 10000 x k) % 10000], by go_num, by omega, by go_num, by rw [List.length_append, Hlen.out]; rfl, Hdig.out.snoc (Nat.mod_lt _ (by omega)), by rw [val_snoc, Hlen.out, mod_pow_succ _ x k (by omega), mod_pow_succ _ y k (by omega), Nat.pow_succ]; exact add_step Hval.out (by have := Hex.out; omega), by omega, ho1, hb1⟩
        case measure => simp [intOf]; omega
    · by_cases hkb : k < lb
      · obtain ⟨bb, ob, rfl, hcB⟩ := (HB.out.below hbel (Nat.le_refl _)).at_ hkb
        have hdB := dg_lt 10000 y k (by omega)
        have Hex : Hid (dg 10000 x k = 0) := Lib.hid (dg_high 10000 x k (by omega) (by rw [← Hla.out]; omega))
        go_wp2_with (at_builtin; refine wpList_append_own _ rfl _ _ 51 rfl w.heap.size 3 i0 (.int .i64 0) 1 8 Tryd.underlying51 hi hz0 hz1 hz2 rfl (by decide) _ _ _ rfl (hown.alloc _) ⟨wr.heap.size, 0, none⟩ 1 1 [.int .i64 (((cn : Int) + (dg 10000 y k : Nat)) % 10000)] rfl rfl (cell_one_new _ _ _) (one_int _ _) (by unfold maxLen; omega) (by omega) (by simp; omega) ?_; intro v' w1 hown' hgrow _)
        have hb1 := below_grown_own hbel hbel.size (Nat.le_refl _) hown hgrow
        have ho1 := own_snoc (y := (cn + dg 10000 y k) % 10000) (by omega) hown'
        clear hown' hgrow hown hbel
        go_wp2_with fail
        go_roundw
        case rel => exact ⟨(cn + dg 10000 y k) / 10000, k + 1, pre ++ [(cn + dg 10000 y k) % 10000], by go_num, by omega, by go_num, by rw [List.length_append, Hlen.out]; rfl, Hdig.out.snoc (Nat.mod_lt _ (by omega)), by rw [val_snoc, Hlen.out, mod_pow_succ _ x k (by omega), mod_pow_succ _ y k (by omega), Nat.pow_succ]; exact add_step Hval.out (by have := Hex.out; omega), by omega, ho1, hb1⟩
        case measure => simp [intOf]; omega
      · by_cases hc0 : 0 < cn
        · have Hex : Hid (dg 10000 x k = 0 ∧ dg 10000 y k = 0) := Lib.hid ⟨dg_high 10000 x k (by omega) (by rw [← Hla.out]; omega), dg_high 10000 y k (by omega) (by rw [← Hlb.out]; omega)⟩
          obtain rfl : cn = 1 := by omega
          have Hco := Lib.hid (carry_out (x := x) (y := y) (k := k) (by rw [← Hla.out]; omega) (by rw [← Hlb.out]; omega) Hval.out)
          have hkm : k ≤ la ∨ k ≤ lb := by have := Hkk.out; omega
          go_wp2_with (at_builtin; refine wpList_append_own _ rfl _ _ 51 rfl w.heap.size 3 i0 (.int .i64 0) 1 8 Tryd.underlying51 hi hz0 hz1 hz2 rfl (by decide) _ _ _ rfl (hown.alloc _) ⟨wr.heap.size, 0, none⟩ 1 1 [.int .i64 (1)] rfl rfl (cell_one_new _ _ _) (one_int _ _) (by unfold maxLen; omega) (by omega) (by simp; omega) ?_; intro v' w1 hown' hgrow _)
          have hb1 := below_grown_own hbel hbel.size (Nat.le_refl _) hown hgrow
          have ho1 := own_snoc (y := (1) % 10000) (by omega) hown'
          clear hown' hgrow hown hbel
          go_wp2_with fail
          go_roundw
          case rel => exact ⟨(1) / 10000, k + 1, pre ++ [(1) % 10000], by go_num, by omega, by go_num, by rw [List.length_append, Hlen.out]; rfl, Hdig.out.snoc (Nat.mod_lt _ (by omega)), by rw [val_snoc, Hlen.out, mod_pow_succ _ x k (by omega), mod_pow_succ _ y k (by omega), Nat.pow_succ]; exact add_step Hval.out (by have := Hex.out; omega), .inr (.inr ⟨by omega, Hco.out, by omega⟩), ho1, hb1⟩
          case measure => simp [intOf]; omega
        · obtain rfl : cn = 0 := by omega
          go_wp2_with fail
          go_ret
          obtain ⟨e1, e2⟩ := add_end x y k pre Hlen.out (by rw [← Hla.out]; omega) (by rw [← Hlb.out]; omega) Hval.out (by have := Hkk.out; rw [← Hla.out, ← Hlb.out]; omega)
          refine ⟨⟨_, rfl, ?_⟩, hbel⟩
          have := nums_own (by omega) pre rfl Hdig.out e2 hown
          rwa [e1] at this

theorem sub_end (x y k br : Nat) (pre : List Nat) (hd : Dig 10000 pre) (hl : pre.length = k) (hx : ln 10000 x ≤ k) (hxy : y ≤ x) (hv : val 10000 pre + y % 10000 ^ k = x % 10000 ^ k + br * 10000 ^ k) : val 10000 pre = x - y := by
  have hy : ln 10000 y ≤ k := Nat.le_trans (ln_mono _ _ _ (by omega) hxy) hx
  rw [mod_pow_ln _ x k (by omega) hx, mod_pow_ln _ y k (by omega) hy] at hv
  have h1 := val_lt 10000 pre hd
  rw [hl] at h1
  cases br with
  | zero => omega
  | succ b => rw [Nat.succ_mul] at hv; omega

set_option maxHeartbeats 1600000 in
theorem subNat_any (va vb : Value) (x y : Nat) (w : World) (ha : Nums 3 .i64 10000 w va x) (hb : Nums 3 .i64 10000 w vb y) (hlx : ln 10000 x ≤ 1099511627776) (hxy : y ≤ x) :
    Calls Tryd.prog 90 #[va, vb] w fun e w' => (∃ v, e = .returned v ∧ Nums 3 .i64 10000 w' v (x - y)) ∧ Below w.heap.size w w' := by
  have hly : ln 10000 y ≤ 1099511627776 := Nat.le_trans (ln_mono _ _ _ (by omega) hxy) hlx
  obtain ⟨i0, hi, hz0, hz1, hz2⟩ := info_parts Tryd.info_int
  obtain ⟨Aa, ca, rfl, hca, hca', hA⟩ := RowF.open ha
  obtain ⟨Ab, cb, rfl, hcb, hcb', hB⟩ := RowF.open hb
  clear ha hb
  have HA : Hid (RowA .i64 w Aa (ln 10000 x) (dg 10000 x)) := Lib.hid hA; clear hA
  have HB : Hid (RowA .i64 w Ab (ln 10000 y) (dg 10000 y)) := Lib.hid hB; clear hB
  obtain ⟨la, hla⟩ : ∃ la, la = ln 10000 x := ⟨_, rfl⟩
  obtain ⟨lb, hlb⟩ : ∃ lb, lb = ln 10000 y := ⟨_, rfl⟩
  rw [← hla] at HA hca hlx ⊢
  rw [← hlb] at HB hcb hly ⊢
  have Hla := Lib.hid hla; clear hla
  have Hlb := Lib.hid hlb; clear hlb
  go_enter Tryd.func90, Tryd.ntmps90
  go_wp2_with fail
  go_loopw [5, 6, 11] (fun v c i wr => ∃ (cn k : Nat) (pre : List Nat), c = .int .i64 (cn : Nat) ∧ cn ≤ 1 ∧ i = .int .i64 (k : Nat) ∧ k ≤ la ∧ pre.length = k ∧ Dig 10000 pre ∧ val 10000 pre + y % 10000 ^ k = x % 10000 ^ k + cn * 10000 ^ k ∧ wr.ownsRow w.heap.size 3 1 v pre.length (pre.map fun x => .int .i64 (x : Nat)) ∧ Below w.heap.size w wr) (fun _ _ i _ => la - (intOf i).toNat)
  case atStart => exact ⟨0, 0, [], rfl, by omega, rfl, by omega, rfl, (fun x hx => by cases hx), by simp [val, Nat.mod_one], World.ownsRow_nil _ _ _ _, Below.refl _ _⟩
  case round =>
    obtain ⟨cn, k, pre, rfl, hcn, rfl, hkl, hlen, hdig, hval, hown, hbel⟩ := hrel
    have hsz := hbel.size
    have hpl : pre.length ≤ 1099511627777 := by omega
    have Hlen := Lib.hid hlen; clear hlen
    have Hdig := Lib.hid hdig; clear hdig
    have Hval := Lib.hid hval; clear hval
    by_cases hka : k < la
    · obtain ⟨ba, oa, rfl, hcA⟩ := (HA.out.below hbel (Nat.le_refl _)).at_ hka
      have hdA := dg_lt 10000 x k (by omega)
      by_cases hkb : k < lb
      · obtain ⟨bb, ob, rfl, hcB⟩ := (HB.out.below hbel (Nat.le_refl _)).at_ hkb
        have hdB := dg_lt 10000 y k (by omega)
        have Hex : Hid (True) := Lib.hid trivial
        by_cases hneg : (dg 10000 x k : Int) - cn - dg 10000 y k < 0
        · go_wp2_with (at_builtin; refine wpList_append_own _ rfl _ _ 51 rfl w.heap.size 3 i0 (.int .i64 0) 1 8 Tryd.underlying51 hi hz0 hz1 hz2 rfl (by decide) _ _ _ rfl (hown.alloc _) ⟨wr.heap.size, 0, none⟩ 1 1 [.int .i64 ((dg 10000 x k : Int) - cn - (dg 10000 y k : Nat) + 10000)] rfl rfl (cell_one_new _ _ _) (one_int _ _) (by unfold maxLen; omega) (by omega) (by simp; omega) ?_; intro v' w1 hown' hgrow _)
          have hb1 := below_grown_own hbel hbel.size (Nat.le_refl _) hown hgrow
          have ho1 := own_snoc (y := dg 10000 x k + 10000 - cn - dg 10000 y k) (by omega) hown'
          clear hown' hgrow hown hbel
          go_wp2_with fail
          go_roundw
          case rel => exact ⟨1, k + 1, pre ++ [dg 10000 x k + 10000 - cn - dg 10000 y k], by go_num, by omega, by go_num, by omega, by rw [List.length_append, Hlen.out]; rfl, Hdig.out.snoc (by omega), by rw [val_snoc, Hlen.out, mod_pow_succ _ x k (by omega), mod_pow_succ _ y k (by omega), Nat.pow_succ]; exact sub_step Hval.out (by have := Hex.out; omega), ho1, hb1⟩
          case measure => simp [intOf]; omega
        · go_wp2_with (at_builtin; refine wpList_append_own _ rfl _ _ 51 rfl w.heap.size 3 i0 (.int .i64 0) 1 8 Tryd.underlying51 hi hz0 hz1 hz2 rfl (by decide) _ _ _ rfl (hown.alloc _) ⟨wr.heap.size, 0, none⟩ 1 1 [.int .i64 ((dg 10000 x k : Int) - cn - (dg 10000 y k : Nat))] rfl rfl (cell_one_new _ _ _) (one_int _ _) (by unfold maxLen; omega) (by omega) (by simp; omega) ?_; intro v' w1 hown' hgrow _)
          have hb1 := below_grown_own hbel hbel.size (Nat.le_refl _) hown hgrow
          have ho1 := own_snoc (y := dg 10000 x k - cn - dg 10000 y k) (by omega) hown'
          clear hown' hgrow hown hbel
          go_wp2_with fail
          go_roundw
          case rel => exact ⟨0, k + 1, pre ++ [dg 10000 x k - cn - dg 10000 y k], by go_num, by omega, by go_num, by omega, by rw [List.length_append, Hlen.out]; rfl, Hdig.out.snoc (by omega), by rw [val_snoc, Hlen.out, mod_pow_succ _ x k (by omega), mod_pow_succ _ y k (by omega), Nat.pow_succ]; exact sub_step Hval.out (by have := Hex.out; omega), ho1, hb1⟩
          case measure => simp [intOf]; omega
      · have Hex : Hid (dg 10000 y k = 0) := Lib.hid (dg_high 10000 y k (by omega) (by rw [← Hlb.out]; omega))
        by_cases hneg : (dg 10000 x k : Int) - cn < 0
        · go_wp2_with (at_builtin; refine wpList_append_own _ rfl _ _ 51 rfl w.heap.size 3 i0 (.int .i64 0) 1 8 Tryd.underlying51 hi hz0 hz1 hz2 rfl (by decide) _ _ _ rfl (hown.alloc _) ⟨wr.heap.size, 0, none⟩ 1 1 [.int .i64 ((dg 10000 x k : Int) - cn + 10000)] rfl rfl (cell_one_new _ _ _) (one_int _ _) (by unfold maxLen; omega) (by omega) (by simp; omega) ?_; intro v' w1 hown' hgrow _)
          have hb1 := below_grown_own hbel hbel.size (Nat.le_refl _) hown hgrow
          have ho1 := own_snoc (y := dg 10000 x k + 10000 - cn) (by omega) hown'
          clear hown' hgrow hown hbel
          go_wp2_with fail
          go_roundw
          case rel => exact ⟨1, k + 1, pre ++ [dg 10000 x k + 10000 - cn], by go_num, by omega, by go_num, by omega, by rw [List.length_append, Hlen.out]; rfl, Hdig.out.snoc (by omega), by rw [val_snoc, Hlen.out, mod_pow_succ _ x k (by omega), mod_pow_succ _ y k (by omega), Nat.pow_succ]; exact sub_step Hval.out (by have := Hex.out; omega), ho1, hb1⟩
          case measure => simp [intOf]; omega
        · go_wp2_with (at_builtin; refine wpList_append_own _ rfl _ _ 51 rfl w.heap.size 3 i0 (.int .i64 0) 1 8 Tryd.underlying51 hi hz0 hz1 hz2 rfl (by decide) _ _ _ rfl (hown.alloc _) ⟨wr.heap.size, 0, none⟩ 1 1 [.int .i64 ((dg 10000 x k : Int) - cn)] rfl rfl (cell_one_new _ _ _) (one_int _ _) (by unfold maxLen; omega) (by omega) (by simp; omega) ?_; intro v' w1 hown' hgrow _)
          have hb1 := below_grown_own hbel hbel.size (Nat.le_refl _) hown hgrow
          have ho1 := own_snoc (y := dg 10000 x k - cn) (by omega) hown'
          clear hown' hgrow hown hbel
          go_wp2_with fail
          go_roundw
          case rel => exact ⟨0, k + 1, pre ++ [dg 10000 x k - cn], by go_num, by omega, by go_num, by omega, by rw [List.length_append, Hlen.out]; rfl, Hdig.out.snoc (by omega), by rw [val_snoc, Hlen.out, mod_pow_succ _ x k (by omega), mod_pow_succ _ y k (by omega), Nat.pow_succ]; exact sub_step Hval.out (by have := Hex.out; omega), ho1, hb1⟩
          case measure => simp [intOf]; omega
    · go_wp2_with (go_at_call 94; refine (trim_any _ pre _ Hdig.out (rowF_own pre rfl hown)).mono ?_; rintro e w' ⟨⟨v', rfl, hv'⟩, rfl⟩)
      go_ret
      refine ⟨⟨_, rfl, ?_⟩, hbel⟩
      have e1 := sub_end x y k cn pre Hdig.out Hlen.out (by rw [← Hla.out]; omega) hxy Hval.out
      rwa [e1] at hv'

end Go.Proofs.YtdjldhkmcmbiiaaDoor
