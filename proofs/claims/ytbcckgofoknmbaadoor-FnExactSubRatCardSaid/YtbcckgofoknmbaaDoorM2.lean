/-
  Several texts in one: AddSub, Mul, Div, Low, Texts, IntQ, Rat, RatOfS.
-/
import Derived.Test.YtbcckgofoknmbaaDoorM1
import Derived.Laws.AppendOwnNone
import Derived.Deep.LoopGhost
import Derived.Deep.RegionWith
import Derived.Laws.BytesArg
import Derived.Deep.RegionHeld3
import Derived.Deep.DeepCutAuto
/-
  The model's sum and difference of two natural numbers.
-/
namespace Go.Proofs.YtbcckgofoknmbaaDoor
open Go.RowKit Num

theorem top_le (b x k : Nat) (hb : 2 ≤ b) (h : k < ln b x) : b ^ k ≤ x := by
  have hx : 0 < x := by
    rcases Nat.eq_zero_or_pos x with rfl | h'
    · simp [ln_zero] at h
    · exact h'
  exact Nat.le_trans (Nat.pow_le_pow_right (by omega) (by omega)) (pow_ln_le b x hb hx)

theorem add_end (x y k : Nat) (pre : List Nat) (hl : pre.length = k) (hx : ln 10000 x ≤ k) (hy : ln 10000 y ≤ k) (hv : val 10000 pre + 0 * 10000 ^ k = x % 10000 ^ k + y % 10000 ^ k)
    (hk : k ≤ ln 10000 x ∨ k ≤ ln 10000 y ∨ 10000 ^ (k - 1) ≤ x + y) : val 10000 pre = x + y ∧ (pre ≠ [] → 10000 ^ (pre.length - 1) ≤ val 10000 pre) := by
  rw [mod_pow_ln _ x k (by omega) hx, mod_pow_ln _ y k (by omega) hy] at hv
  have hv' : val 10000 pre = x + y := by omega
  refine ⟨hv', fun hne => ?_⟩
  have hpos : 0 < k := by
    cases pre with
    | nil => exact absurd rfl hne
    | cons _ _ => simp at hl; omega
  rw [hv', hl]
  rcases hk with h | h | h
  · exact Nat.le_trans (top_le _ x (k - 1) (by omega) (by omega)) (by omega)
  · exact Nat.le_trans (top_le _ y (k - 1) (by omega) (by omega)) (by omega)
  · exact h

theorem carry_out {x y k v : Nat} (hx : ln 10000 x ≤ k) (hy : ln 10000 y ≤ k) (hv : v + 1 * 10000 ^ k = x % 10000 ^ k + y % 10000 ^ k) : 10000 ^ (k + 1 - 1) ≤ x + y := by
  rw [mod_pow_ln _ x k (by omega) hx, mod_pow_ln _ y k (by omega) hy] at hv
  simp only [Nat.add_sub_cancel]
  omega

set_option maxHeartbeats 1600000 in
theorem addNat_any (va vb : Value) (x y : Nat) (w : World) (ha : Nums 3 .i64 10000 w va x) (hb : Nums 3 .i64 10000 w vb y) (hlx : ln 10000 x ≤ 1099511627776) (hly : ln 10000 y ≤ 1099511627776) :
    Calls Tryd.prog 23 #[va, vb] w fun e w' => (∃ v, e = .returned v ∧ Nums 3 .i64 10000 w' v (x + y)) ∧ Below w.heap.size w w' := by
  obtain ⟨i0, hi, hz0, hz1, hz2⟩ := info_parts Tryd.info_int
  obtain ⟨Aa, ca, rfl, hca, hca', hA⟩ := RowF.open ha
  obtain ⟨Ab, cb, rfl, hcb, hcb', hB⟩ := RowF.open hb
  clear ha hb
  have HA : Hid (RowA .i64 w Aa (ln 10000 x) (dg 10000 x)) := Lib.hid hA; clear hA
  have HB : Hid (RowA .i64 w Ab (ln 10000 y) (dg 10000 y)) := Lib.hid hB; clear hB
  obtain ⟨la, hla⟩ : ∃ la, la = ln 10000 x := ⟨_, rfl⟩
  obtain ⟨lb, hlb⟩ : ∃ lb, lb = ln 10000 y := ⟨_, rfl⟩
  rw [← hla] at HA hca hlx ⊢
  rw [← hlb] at HB hcb hly ⊢
  have Hla := Lib.hid hla; clear hla
  have Hlb := Lib.hid hlb; clear hlb
  go_enter Tryd.func23, Tryd.ntmps23
  go_wp2_with fail
  go_loopw [5, 6, 7] (fun v c i wr => ∃ (cn k : Nat) (pre : List Nat), c = .int .i64 (cn : Nat) ∧ cn ≤ 1 ∧ i = .int .i64 (k : Nat) ∧ pre.length = k ∧ Dig 10000 pre ∧ val 10000 pre + cn * 10000 ^ k = x % 10000 ^ k + y % 10000 ^ k ∧ (k ≤ la ∨ k ≤ lb ∨ (cn = 0 ∧ 10000 ^ (k - 1) ≤ x + y ∧ (k ≤ la + 1 ∨ k ≤ lb + 1))) ∧ wr.ownsRow w.heap.size 3 1 v pre.length (pre.map fun x => .int .i64 (x : Nat)) ∧ Below w.heap.size w wr) (fun _ _ i _ => max la lb + 1 - (intOf i).toNat)
  case atStart => exact ⟨0, 0, [], rfl, by omega, rfl, rfl, (fun x hx => by cases hx), by simp [val, Nat.mod_one], by omega, World.ownsRow_nil _ _ _ _, Below.refl _ _⟩
  case round =>
    obtain ⟨cn, k, pre, rfl, hcn, rfl, hlen, hdig, hval, hkk, hown, hbel⟩ := hrel
    have hsz := hbel.size
    have hpl : pre.length ≤ 1099511627777 := by omega
    have Hlen := Lib.hid hlen; clear hlen
    have Hdig := Lib.hid hdig; clear hdig
    have Hval := Lib.hid hval; clear hval
    have Hkk := Lib.hid hkk
    have hk' : k ≤ la + 1 ∨ k ≤ lb + 1 := by omega
    clear hkk
    by_cases hka : k < la
    · obtain ⟨ba, oa, rfl, hcA⟩ := (HA.out.below hbel (Nat.le_refl _)).at_ hka
      have hdA := dg_lt 10000 x k (by omega)
      by_cases hkb : k < lb
      · obtain ⟨bb, ob, rfl, hcB⟩ := (HB.out.below hbel (Nat.le_refl _)).at_ hkb
        have hdB := dg_lt 10000 y k (by omega)
        have Hex : Hid (True) := Lib.hid trivial
        go_wp2_with (at_builtin; refine wpList_append_own _ rfl _ _ 34 rfl w.heap.size 3 i0 (.int .i64 0) 1 8 Tryd.underlying34 hi hz0 hz1 hz2 rfl (by decide) _ _ _ rfl (hown.alloc _) ⟨wr.heap.size, 0, none⟩ 1 1 [.int .i64 (((cn : Int) + (dg 10000 x k : Nat) + (dg 10000 y k : Nat)) % 10000)] rfl rfl (cell_one_new _ _ _) (one_int _ _) (by unfold maxLen; omega) (by omega) (by simp; omega) ?_; intro v' w1 hown' hgrow _)
        have hb1 := below_grown_own hbel hbel.size (Nat.le_refl _) hown hgrow
        have ho1 := own_snoc (y := (cn + dg 10000 x k + dg 10000 y k) % 10000) (by omega) hown'
        clear hown' hgrow hown hbel
        go_wp2_with fail
        go_roundw
        case rel => exact ⟨(cn + dg 10000 x k + dg 10000 y k) / 10000, k + 1, pre ++ [(cn + dg 10000 x k + dg 10000 y k) % 10000], by go_num, by omega, by go_num, by rw [List.length_append, Hlen.out]; rfl, Hdig.out.snoc (Nat.mod_lt _ (by omega)), by rw [val_snoc, Hlen.out, mod_pow_succ _ x k (by omega), mod_pow_succ _ y k (by omega), Nat.pow_succ]; exact add_step Hval.out (by have := Hex.out; omega), by omega, ho1, hb1⟩
        case measure => simp [intOf]; omega
      · have Hex : Hid (dg 10000 y k = 0) := Lib.hid (dg_high 10000 y k (by omega) (by rw [← Hlb.out]; omega))
        go_wp2_with (at_builtin; refine wpList_append_own _ rfl _ _ 34 rfl w.heap.size 3 i0 (.int .i64 0) 1 8 Tryd.underlying34 hi hz0 hz1 hz2 rfl (by decide) _ _ _ rfl (hown.alloc _) ⟨wr.heap.size, 0, none⟩ 1 1 [.int .i64 (((cn : Int) + (dg 10000 x k : Nat)) % 10000)] rfl rfl (cell_one_new _ _ _) (one_int _ _) (by unfold maxLen; omega) (by omega) (by simp; omega) ?_; intro v' w1 hown' hgrow _)
        have hb1 := below_grown_own hbel hbel.size (Nat.le_refl _) hown hgrow
        have ho1 := own_snoc (y := (cn + dg 10000 x k) % 10000) (by omega) hown'
        clear hown' hgrow hown hbel
        go_wp2_with fail
        go_roundw
        case rel => exact ⟨(cn + dg 10000 x k) / 10000, k + 1, pre ++ [(cn + dg 10000 x k) % 10000], by go_num, by omega, by go_num, by rw [List.length_append, Hlen.out]; rfl, Hdig.out.snoc (Nat.mod_lt _ (by omega)), by rw [val_snoc, Hlen.out, mod_pow_succ _ x k (by omega), mod_pow_succ _ y k (by omega), Nat.pow_succ]; exact add_step Hval.out (by have := Hex.out; omega), by omega, ho1, hb1⟩
        case measure => simp [intOf]; omega
    · by_cases hkb : k < lb
      · obtain ⟨bb, ob, rfl, hcB⟩ := (HB.out.below hbel (Nat.le_refl _)).at_ hkb
        have hdB := dg_lt 10000 y k (by omega)
        have Hex : Hid (dg 10000 x k = 0) := Lib.hid (dg_high 10000 x k (by omega) (by rw [← Hla.out]; omega))
        go_wp2_with (at_builtin; refine wpList_append_own _ rfl _ _ 34 rfl w.heap.size 3 i0 (.int .i64 0) 1 8 Tryd.underlying34 hi hz0 hz1 hz2 rfl (by decide) _ _ _ rfl (hown.alloc _) ⟨wr.heap.size, 0, none⟩ 1 1 [.int .i64 (((cn : Int) + (dg 10000 y k : Nat)) % 10000)] rfl rfl (cell_one_new _ _ _) (one_int _ _) (by unfold maxLen; omega) (by omega) (by simp; omega) ?_; intro v' w1 hown' hgrow _)
        have hb1 := below_grown_own hbel hbel.size (Nat.le_refl _) hown hgrow
        have ho1 := own_snoc (y := (cn + dg 10000 y k) % 10000) (by omega) hown'
        clear hown' hgrow hown hbel
        go_wp2_with fail
        go_roundw
        case rel => exact ⟨(cn + dg 10000 y k) / 10000, k + 1, pre ++ [(cn + dg 10000 y k) % 10000], by go_num, by omega, by go_num, by rw [List.length_append, Hlen.out]; rfl, Hdig.out.snoc (Nat.mod_lt _ (by omega)), by rw [val_snoc, Hlen.out, mod_pow_succ _ x k (by omega), mod_pow_succ _ y k (by omega), Nat.pow_succ]; exact add_step Hval.out (by have := Hex.out; omega), by omega, ho1, hb1⟩
        case measure => simp [intOf]; omega
      · by_cases hc0 : 0 < cn
        · have Hex : Hid (dg 10000 x k = 0 ∧ dg 10000 y k = 0) := Lib.hid ⟨dg_high 10000 x k (by omega) (by rw [← Hla.out]; omega), dg_high 10000 y k (by omega) (by rw [← Hlb.out]; omega)⟩
          obtain rfl : cn = 1 := by omega
          have Hco := Lib.hid (carry_out (x := x) (y := y) (k := k) (by rw [← Hla.out]; omega) (by rw [← Hlb.out]; omega) Hval.out)
          have hkm : k ≤ la ∨ k ≤ lb := by have := Hkk.out; omega
          go_wp2_with (at_builtin; refine wpList_append_own _ rfl _ _ 34 rfl w.heap.size 3 i0 (.int .i64 0) 1 8 Tryd.underlying34 hi hz0 hz1 hz2 rfl (by decide) _ _ _ rfl (hown.alloc _) ⟨wr.heap.size, 0, none⟩ 1 1 [.int .i64 (1)] rfl rfl (cell_one_new _ _ _) (one_int _ _) (by unfold maxLen; omega) (by omega) (by simp; omega) ?_; intro v' w1 hown' hgrow _)
          have hb1 := below_grown_own hbel hbel.size (Nat.le_refl _) hown hgrow
          have ho1 := own_snoc (y := (1) % 10000) (by omega) hown'
          clear hown' hgrow hown hbel
          go_wp2_with fail
          go_roundw
          case rel => exact ⟨(1) / 10000, k + 1, pre ++ [(1) % 10000], by go_num, by omega, by go_num, by rw [List.length_append, Hlen.out]; rfl, Hdig.out.snoc (Nat.mod_lt _ (by omega)), by rw [val_snoc, Hlen.out, mod_pow_succ _ x k (by omega), mod_pow_succ _ y k (by omega), Nat.pow_succ]; exact add_step Hval.out (by have := Hex.out; omega), .inr (.inr ⟨by omega, Hco.out, by omega⟩), ho1, hb1⟩
          case measure => simp [intOf]; omega
        · obtain rfl : cn = 0 := by omega
          go_wp2_with fail
          go_ret
          obtain ⟨e1, e2⟩ := add_end x y k pre Hlen.out (by rw [← Hla.out]; omega) (by rw [← Hlb.out]; omega) Hval.out (by have := Hkk.out; rw [← Hla.out, ← Hlb.out]; omega)
          refine ⟨⟨_, rfl, ?_⟩, hbel⟩
          have := nums_own (by omega) pre rfl Hdig.out e2 hown
          rwa [e1] at this

theorem sub_end (x y k br : Nat) (pre : List Nat) (hd : Dig 10000 pre) (hl : pre.length = k) (hx : ln 10000 x ≤ k) (hxy : y ≤ x) (hv : val 10000 pre + y % 10000 ^ k = x % 10000 ^ k + br * 10000 ^ k) : val 10000 pre = x - y := by
  have hy : ln 10000 y ≤ k := Nat.le_trans (ln_mono _ _ _ (by omega) hxy) hx
  rw [mod_pow_ln _ x k (by omega) hx, mod_pow_ln _ y k (by omega) hy] at hv
  have h1 := val_lt 10000 pre hd
  rw [hl] at h1
  cases br with
  | zero => omega
  | succ b => rw [Nat.succ_mul] at hv; omega

set_option maxHeartbeats 1600000 in
theorem subNat_any (va vb : Value) (x y : Nat) (w : World) (ha : Nums 3 .i64 10000 w va x) (hb : Nums 3 .i64 10000 w vb y) (hlx : ln 10000 x ≤ 1099511627776) (hxy : y ≤ x) :
    Calls Tryd.prog 25 #[va, vb] w fun e w' => (∃ v, e = .returned v ∧ Nums 3 .i64 10000 w' v (x - y)) ∧ Below w.heap.size w w' := by
  have hly : ln 10000 y ≤ 1099511627776 := Nat.le_trans (ln_mono _ _ _ (by omega) hxy) hlx
  obtain ⟨i0, hi, hz0, hz1, hz2⟩ := info_parts Tryd.info_int
  obtain ⟨Aa, ca, rfl, hca, hca', hA⟩ := RowF.open ha
  obtain ⟨Ab, cb, rfl, hcb, hcb', hB⟩ := RowF.open hb
  clear ha hb
  have HA : Hid (RowA .i64 w Aa (ln 10000 x) (dg 10000 x)) := Lib.hid hA; clear hA
  have HB : Hid (RowA .i64 w Ab (ln 10000 y) (dg 10000 y)) := Lib.hid hB; clear hB
  obtain ⟨la, hla⟩ : ∃ la, la = ln 10000 x := ⟨_, rfl⟩
  obtain ⟨lb, hlb⟩ : ∃ lb, lb = ln 10000 y := ⟨_, rfl⟩
  rw [← hla] at HA hca hlx ⊢
  rw [← hlb] at HB hcb hly ⊢
  have Hla := Lib.hid hla; clear hla
  have Hlb := Lib.hid hlb; clear hlb
  go_enter Tryd.func25, Tryd.ntmps25
  go_wp2_with fail
  go_loopw [5, 6, 11] (fun v c i wr => ∃ (cn k : Nat) (pre : List Nat), c = .int .i64 (cn : Nat) ∧ cn ≤ 1 ∧ i = .int .i64 (k : Nat) ∧ k ≤ la ∧ pre.length = k ∧ Dig 10000 pre ∧ val 10000 pre + y % 10000 ^ k = x % 10000 ^ k + cn * 10000 ^ k ∧ wr.ownsRow w.heap.size 3 1 v pre.length (pre.map fun x => .int .i64 (x : Nat)) ∧ Below w.heap.size w wr) (fun _ _ i _ => la - (intOf i).toNat)
  case atStart => exact ⟨0, 0, [], rfl, by omega, rfl, by omega, rfl, (fun x hx => by cases hx), by simp [val, Nat.mod_one], World.ownsRow_nil _ _ _ _, Below.refl _ _⟩
  case round =>
    obtain ⟨cn, k, pre, rfl, hcn, rfl, hkl, hlen, hdig, hval, hown, hbel⟩ := hrel
    have hsz := hbel.size
    have hpl : pre.length ≤ 1099511627777 := by omega
    have Hlen := Lib.hid hlen; clear hlen
    have Hdig := Lib.hid hdig; clear hdig
    have Hval := Lib.hid hval; clear hval
    by_cases hka : k < la
    · obtain ⟨ba, oa, rfl, hcA⟩ := (HA.out.below hbel (Nat.le_refl _)).at_ hka
      have hdA := dg_lt 10000 x k (by omega)
      by_cases hkb : k < lb
      · obtain ⟨bb, ob, rfl, hcB⟩ := (HB.out.below hbel (Nat.le_refl _)).at_ hkb
        have hdB := dg_lt 10000 y k (by omega)
        have Hex : Hid (True) := Lib.hid trivial
        by_cases hneg : (dg 10000 x k : Int) - cn - dg 10000 y k < 0
        · go_wp2_with (at_builtin; refine wpList_append_own _ rfl _ _ 34 rfl w.heap.size 3 i0 (.int .i64 0) 1 8 Tryd.underlying34 hi hz0 hz1 hz2 rfl (by decide) _ _ _ rfl (hown.alloc _) ⟨wr.heap.size, 0, none⟩ 1 1 [.int .i64 ((dg 10000 x k : Int) - cn - (dg 10000 y k : Nat) + 10000)] rfl rfl (cell_one_new _ _ _) (one_int _ _) (by unfold maxLen; omega) (by omega) (by simp; omega) ?_; intro v' w1 hown' hgrow _)
          have hb1 := below_grown_own hbel hbel.size (Nat.le_refl _) hown hgrow
          have ho1 := own_snoc (y := dg 10000 x k + 10000 - cn - dg 10000 y k) (by omega) hown'
          clear hown' hgrow hown hbel
          go_wp2_with fail
          go_roundw
          case rel => exact ⟨1, k + 1, pre ++ [dg 10000 x k + 10000 - cn - dg 10000 y k], by go_num, by omega, by go_num, by omega, by rw [List.length_append, Hlen.out]; rfl, Hdig.out.snoc (by omega), by rw [val_snoc, Hlen.out, mod_pow_succ _ x k (by omega), mod_pow_succ _ y k (by omega), Nat.pow_succ]; exact sub_step Hval.out (by have := Hex.out; omega), ho1, hb1⟩
          case measure => simp [intOf]; omega
        · go_wp2_with (at_builtin; refine wpList_append_own _ rfl _ _ 34 rfl w.heap.size 3 i0 (.int .i64 0) 1 8 Tryd.underlying34 hi hz0 hz1 hz2 rfl (by decide) _ _ _ rfl (hown.alloc _) ⟨wr.heap.size, 0, none⟩ 1 1 [.int .i64 ((dg 10000 x k : Int) - cn - (dg 10000 y k : Nat))] rfl rfl (cell_one_new _ _ _) (one_int _ _) (by unfold maxLen; omega) (by omega) (by simp; omega) ?_; intro v' w1 hown' hgrow _)
          have hb1 := below_grown_own hbel hbel.size (Nat.le_refl _) hown hgrow
          have ho1 := own_snoc (y := dg 10000 x k - cn - dg 10000 y k) (by omega) hown'
          clear hown' hgrow hown hbel
          go_wp2_with fail
          go_roundw
          case rel => exact ⟨0, k + 1, pre ++ [dg 10000 x k - cn - dg 10000 y k], by go_num, by omega, by go_num, by omega, by rw [List.length_append, Hlen.out]; rfl, Hdig.out.snoc (by omega), by rw [val_snoc, Hlen.out, mod_pow_succ _ x k (by omega), mod_pow_succ _ y k (by omega), Nat.pow_succ]; exact sub_step Hval.out (by have := Hex.out; omega), ho1, hb1⟩
          case measure => simp [intOf]; omega
      · have Hex : Hid (dg 10000 y k = 0) := Lib.hid (dg_high 10000 y k (by omega) (by rw [← Hlb.out]; omega))
        by_cases hneg : (dg 10000 x k : Int) - cn < 0
        · go_wp2_with (at_builtin; refine wpList_append_own _ rfl _ _ 34 rfl w.heap.size 3 i0 (.int .i64 0) 1 8 Tryd.underlying34 hi hz0 hz1 hz2 rfl (by decide) _ _ _ rfl (hown.alloc _) ⟨wr.heap.size, 0, none⟩ 1 1 [.int .i64 ((dg 10000 x k : Int) - cn + 10000)] rfl rfl (cell_one_new _ _ _) (one_int _ _) (by unfold maxLen; omega) (by omega) (by simp; omega) ?_; intro v' w1 hown' hgrow _)
          have hb1 := below_grown_own hbel hbel.size (Nat.le_refl _) hown hgrow
          have ho1 := own_snoc (y := dg 10000 x k + 10000 - cn) (by omega) hown'
          clear hown' hgrow hown hbel
          go_wp2_with fail
          go_roundw
          case rel => exact ⟨1, k + 1, pre ++ [dg 10000 x k + 10000 - cn], by go_num, by omega, by go_num, by omega, by rw [List.length_append, Hlen.out]; rfl, Hdig.out.snoc (by omega), by rw [val_snoc, Hlen.out, mod_pow_succ _ x k (by omega), mod_pow_succ _ y k (by omega), Nat.pow_succ]; exact sub_step Hval.out (by have := Hex.out; omega), ho1, hb1⟩
          case measure => simp [intOf]; omega
        · go_wp2_with (at_builtin; refine wpList_append_own _ rfl _ _ 34 rfl w.heap.size 3 i0 (.int .i64 0) 1 8 Tryd.underlying34 hi hz0 hz1 hz2 rfl (by decide) _ _ _ rfl (hown.alloc _) ⟨wr.heap.size, 0, none⟩ 1 1 [.int .i64 ((dg 10000 x k : Int) - cn)] rfl rfl (cell_one_new _ _ _) (one_int _ _) (by unfold maxLen; omega) (by omega) (by simp; omega) ?_; intro v' w1 hown' hgrow _)
          have hb1 := below_grown_own hbel hbel.size (Nat.le_refl _) hown hgrow
          have ho1 := own_snoc (y := dg 10000 x k - cn) (by omega) hown'
          clear hown' hgrow hown hbel
          go_wp2_with fail
          go_roundw
          case rel => exact ⟨0, k + 1, pre ++ [dg 10000 x k - cn], by go_num, by omega, by go_num, by omega, by rw [List.length_append, Hlen.out]; rfl, Hdig.out.snoc (by omega), by rw [val_snoc, Hlen.out, mod_pow_succ _ x k (by omega), mod_pow_succ _ y k (by omega), Nat.pow_succ]; exact sub_step Hval.out (by have := Hex.out; omega), ho1, hb1⟩
          case measure => simp [intOf]; omega
    · go_wp2_with (go_at_call 33; refine (trim_any _ pre _ Hdig.out (rowF_own pre rfl hown)).mono ?_; rintro e w' ⟨⟨v', rfl, hv'⟩, rfl⟩)
      go_ret
      refine ⟨⟨_, rfl, ?_⟩, hbel⟩
      have e1 := sub_end x y k cn pre Hdig.out Hlen.out (by rw [← Hla.out]; omega) hxy Hval.out
      rwa [e1] at hv'

end Go.Proofs.YtbcckgofoknmbaaDoor
/-
  The model's product of two natural numbers: a made row, written in place.
-/
namespace Go.Proofs.YtbcckgofoknmbaaDoor
open Go.RowKit Num

theorem set_val (b : Nat) (xs : List Nat) (p v : Nat) (h : p < xs.length) : val b (xs.set p v) + b ^ p * xs[p] = val b xs + b ^ p * v := by
  have h1 := val_split b (xs.set p v) p (by simp; omega)
  have h2 := val_split b xs p (by omega)
  have h3 := val_drop_step b (xs.set p v) p (by simpa using h)
  have h4 := val_drop_step b xs p h
  rw [List.getElem_set_self] at h3
  rw [List.take_set_of_le (Nat.le_refl _)] at h1
  rw [List.drop_set_of_lt (Nat.lt_add_one _)] at h3
  rw [h1, h3, h2, h4]
  simp only [Nat.mul_add]
  omega

theorem Dig.set {b : Nat} {xs : List Nat} (h : Dig b xs) (p v : Nat) (hv : v < b) : Dig b (xs.set p v) := by
  intro x hx
  rcases List.mem_or_eq_of_mem_set hx with hx | rfl
  · exact h x hx
  · exact hv

/-- The step of a row of a product. -/
theorem mul_step {b p v v' c o D E d' c' base : Nat} {X : Nat} (h : v + c * b ^ p = base + X) (hd : c + o + D * E = d' + b * c') (hv : v' + b ^ p * o = v + b ^ p * d') :
    v' + c' * b ^ (p + 1) = base + (X + b ^ p * (D * E)) := by
  have h2 : b ^ p * (c + o + D * E) = b ^ p * (d' + b * c') := by rw [hd]
  simp only [Nat.mul_add] at h2
  rw [Nat.mul_comm (b ^ p) c, show b ^ p * (b * c') = c' * b ^ (p + 1) from by rw [Nat.pow_succ, ← Nat.mul_assoc, Nat.mul_comm]] at h2
  omega

/-- A digit beyond the value's bound is 0 .. so the row has room. -/
theorem mul_room {b v c p n N : Nat} (hb : 2 ≤ b) (hc : 0 < c) (h : v + c * b ^ p = N) (hN : N < b ^ n) : p < n := by
  have : b ^ p < b ^ n := by
    have : b ^ p ≤ c * b ^ p := Nat.le_mul_of_pos_left _ hc
    omega
  exact (Nat.pow_lt_pow_iff_right (by omega)).1 this

/-- What the digits up to i of x times y come to. -/
theorem mul_bound (b x y i : Nat) (hb : 2 ≤ b) : x % b ^ i * y < b ^ (ln b x + ln b y) ∨ ln b y = 0 := by
  by_cases hy : ln b y = 0
  · exact .inr hy
  · left
    have h1 : x % b ^ i ≤ x := Nat.mod_le _ _
    have h2 := lt_pow_ln b x hb
    have h3 := lt_pow_ln b y hb
    have hy0 : 0 < y := by
      rcases Nat.eq_zero_or_pos y with rfl | h
      · exact absurd (ln_zero b) hy
      · exact h
    rw [Nat.pow_add]
    calc x % b ^ i * y < b ^ ln b x * y := Nat.mul_lt_mul_of_pos_right (by omega) hy0
      _ ≤ b ^ ln b x * b ^ ln b y := Nat.mul_le_mul_left _ (by omega)

theorem mul_next (b x y i : Nat) (hb : 2 ≤ b) : x % b ^ (i + 1) * y = x % b ^ i * y + b ^ i * (dg b x i * y) := by
  rw [mod_pow_succ b x i hb, Nat.add_mul, Nat.mul_assoc]

theorem mul_inner (b i D y k : Nat) (hb : 2 ≤ b) : b ^ i * (D * (y % b ^ (k + 1))) = b ^ i * (D * (y % b ^ k)) + b ^ (i + k) * (D * dg b y k) := by
  rw [mod_pow_succ b y k hb, Nat.mul_add, Nat.mul_add, Nat.pow_add]
  congr 1
  rw [Nat.mul_assoc, ← Nat.mul_assoc D, Nat.mul_comm D, Nat.mul_assoc]

theorem made_own {k : IntKind} {w0 : World} {base : Nat} {e : TypeId} {v : Value} {n : Nat} (h : w0.ownsRow base e 1 v n (madeCells #[Value.int k 0] n).toList) : w0.ownsRow base e 1 v n ((List.replicate n 0).map fun x => .int k (x : Nat)) := by
  rw [toList_madeCells_one] at h
  simpa using h

theorem own_stored {k : IntKind} {w : World} {base g : Nat} {e : TypeId} {n cap : Nat} {xs : List Nat} {j : Nat} {x : Int} {y : Nat} (hxy : x = (y : Nat)) (h : w.ownsRow base e 1 (.slice (some ⟨g, 0, none⟩) n cap) n (xs.map fun x => .int k (x : Nat))) :
    (w.setCell ⟨g, j, none⟩ (.int k x)).ownsRow base e 1 (.slice (some ⟨g, 0, none⟩) n cap) n ((xs.set j y).map fun x => .int k (x : Nat)) := by
  subst hxy
  rw [List.map_set]
  exact (h.stored j _).1

theorem own_cell {k : IntKind} {w : World} {base g : Nat} {e : TypeId} {n cap : Nat} {xs : List Nat} {j : Nat} (h : w.ownsRow base e 1 (.slice (some ⟨g, 0, none⟩) n cap) n (xs.map fun x => .int k (x : Nat))) (hl : xs.length = n) (hj : j < n) :
    w.cell? ⟨g, j, none⟩ = some (.int k (xs.getD j 0 : Nat)) := by
  rw [h.cellAt j (by omega), List.getElem?_map, List.getElem?_eq_getElem (by omega), getD_eq _ _ (by omega)]
  rfl

theorem prod_bd (D E : Nat) (hD : D < 10000) (hE : E < 10000) : (0 : Int) ≤ (D : Int) * (E : Int) ∧ (D : Int) * (E : Int) ≤ 99980001 := by
  have h : D * E ≤ 9999 * 9999 := Nat.mul_le_mul (by omega) (by omega)
  rw [← Int.natCast_mul]
  omega

set_option maxHeartbeats 1600000 in
theorem mulNat_any (va vb : Value) (x y : Nat) (w : World) (ha : Nums 3 .i64 10000 w va x) (hb : Nums 3 .i64 10000 w vb y) (hlx : ln 10000 x ≤ 1099511627776) (hly : ln 10000 y ≤ 1099511627776) :
    Calls Tryd.prog 22 #[va, vb] w fun e w' => (∃ v, e = .returned v ∧ Nums 3 .i64 10000 w' v (x * y)) ∧ Below w.heap.size w w' := by
  obtain ⟨i0, hi, hz0, hz1, hz2⟩ := info_parts Tryd.info_int
  obtain ⟨Aa, ca, rfl, hca, hca', hA⟩ := RowF.open ha
  obtain ⟨Ab, cb, rfl, hcb, hcb', hB⟩ := RowF.open hb
  clear ha hb
  have HA : Hid (RowA .i64 w Aa (ln 10000 x) (dg 10000 x)) := Lib.hid hA; clear hA
  have HB : Hid (RowA .i64 w Ab (ln 10000 y) (dg 10000 y)) := Lib.hid hB; clear hB
  obtain ⟨la, hla⟩ : ∃ la, la = ln 10000 x := ⟨_, rfl⟩
  obtain ⟨lb, hlb⟩ : ∃ lb, lb = ln 10000 y := ⟨_, rfl⟩
  rw [← hla] at HA hca hlx ⊢
  rw [← hlb] at HB hcb hly ⊢
  have Hla := Lib.hid hla; clear hla
  have Hlb := Lib.hid hlb; clear hlb
  go_enter Tryd.func22, Tryd.ntmps22
  go_wp2_with (at_make; refine wpList_make_full _ rfl _ _ 34 rfl w.heap.size 3 i0 (.int .i64 0) 1 Tryd.underlying34 hi hz0 hz1 _ _ _ _ (la + lb + 1) rfl rfl (by omega) (by omega) ?b2 ?b3 (Nat.le_refl _) ?_)
  case b2 => rw [hz2]; omega
  case b3 => unfold maxLen; omega
  intro w0 hown0 hgrow0
  have hown1 := made_own hown0
  have hbel0 : Below w.heap.size w w0 := (Below.refl _ _).grown hgrow0 (Nat.le_refl _) (fun k h => by cases h)
  clear hown0 hgrow0
  go_wp2_with fail
  go_loopw [19] (fun i wr => ∃ (k : Nat) (xs : List Nat), i = .int .i64 (k : Nat) ∧ k ≤ la ∧ xs.length = la + lb + 1 ∧ Dig 10000 xs ∧ val 10000 xs = x % 10000 ^ k * y ∧ wr.ownsRow w.heap.size 3 1 (.slice (some ⟨w.heap.size, 0, none⟩) (la + lb + 1) (la + lb + 1)) (la + lb + 1) (xs.map fun x => .int .i64 (x : Nat)) ∧ Below w.heap.size w wr) (fun i _ => la - (intOf i).toNat)
  case atStart => exact ⟨0, _, rfl, by omega, by simp, (fun x hx => by rw [List.eq_of_mem_replicate hx]; omega), by rw [val_replicate_zero]; simp [Nat.mod_one], hown1, hbel0⟩
  case round =>
    clear hown1 hbel0
    obtain ⟨k, xs, rfl, hkl, hlen, hdig, hval, hown, hbel⟩ := hrel
    have Hlen := Lib.hid hlen; clear hlen
    have Hdig := Lib.hid hdig; clear hdig
    have Hval := Lib.hid hval; clear hval
    by_cases hka : k < la
    · obtain ⟨ba, oa, rfl, hcA⟩ := (HA.out.below hbel (Nat.le_refl _)).at_ hka
      have hdA := dg_lt 10000 x k (by omega)
      obtain ⟨D, hD⟩ : ∃ D, D = dg 10000 x k := ⟨_, rfl⟩
      rw [← hD] at hcA hdA
      have HD := Lib.hid hD; clear hD
      go_wp2_with fail
      obtain ⟨wo, rfl⟩ : ∃ wo : World, wo = wr := ⟨_, rfl⟩
      go_loopw [8, 9] (fun c j wr => ∃ (cn j' : Nat) (ys : List Nat), c = .int .i64 (cn : Nat) ∧ cn ≤ 9999 ∧ j = .int .i64 (j' : Nat) ∧ j' ≤ la + lb ∧ ys.length = la + lb + 1 ∧ Dig 10000 ys ∧ val 10000 ys + cn * 10000 ^ (k + j') = x % 10000 ^ k * y + 10000 ^ k * (D * (y % 10000 ^ j')) ∧ wr.ownsRow w.heap.size 3 1 (.slice (some ⟨w.heap.size, 0, none⟩) (la + lb + 1) (la + lb + 1)) (la + lb + 1) (ys.map fun x => .int .i64 (x : Nat)) ∧ Below w.heap.size w wr) (fun _ j _ => la + lb + 1 - (intOf j).toNat)
      case atStart => exact ⟨0, 0, xs, rfl, by omega, rfl, by omega, Hlen.out, Hdig.out, by rw [Hval.out]; simp [Nat.mod_one], hown, hbel⟩
      case round =>
        clear hown hbel hcA
        obtain ⟨cn, j, ys, rfl, hcn, rfl, hjl, hlen, hdig, hval, hown, hbel⟩ := hrel
        have hsz := hbel.size
        obtain ⟨o, ho⟩ : ∃ o, o = ys.getD (k + j) 0 := ⟨_, rfl⟩
        have hroom : (j < lb ∨ 0 < cn) → k + j < la + lb + 1 ∧ (¬ j < lb → k + j < la + lb) := by
          intro h
          by_cases hj : j < lb
          · exact ⟨by omega, fun h => absurd hj h⟩
          · have hyj : y % 10000 ^ j = y := mod_pow_ln _ y j (by omega) (by rw [← Hlb.out]; omega)
            rw [hyj, HD.out, ← mul_next 10000 x y k (by omega)] at hval
            rcases mul_bound 10000 x y (k + 1) (by omega) with hN | hN
            · have := mul_room (by omega) (by omega) hval hN
              rw [← Hla.out, ← Hlb.out] at this
              omega
            · have hy0 : y = 0 := (ln_eq_zero 10000 y (by omega)).1 hN
              rw [hy0] at hval
              have h1 : 0 < cn * 10000 ^ (k + j) := Nat.mul_pos (by omega) (Nat.pow_pos (by omega))
              simp at hval
              omega
        have hend : ¬ (j < lb ∨ 0 < cn) → val 10000 ys = x % 10000 ^ (k + 1) * y := by
          intro h
          have hyj : y % 10000 ^ j = y := mod_pow_ln _ y j (by omega) (by rw [← Hlb.out]; omega)
          rw [hyj, HD.out, ← mul_next 10000 x y k (by omega), show cn = 0 from by omega] at hval
          omega
        have Hroom := Lib.hid hroom; clear hroom
        have Hend := Lib.hid hend; clear hend
        have Hlen := Lib.hid hlen; clear hlen
        have Hdig := Lib.hid hdig; clear hdig
        have Hval := Lib.hid hval; clear hval
        have hstep : ∀ d' c' E : Nat, k + j < la + lb + 1 → cn + o + D * E = d' + 10000 * c' → E = dg 10000 y j → val 10000 (ys.set (k + j) d') + c' * 10000 ^ (k + (j + 1)) = x % 10000 ^ k * y + 10000 ^ k * (D * (y % 10000 ^ (j + 1))) := by
          intro d' c' E hp hd hE
          rw [mul_inner 10000 k D y j (by omega), ← Nat.add_assoc k j 1, ← hE]
          refine mul_step Hval.out hd ?_
          have := set_val 10000 ys (k + j) d' (by rw [Hlen.out]; exact hp)
          rw [← getD_eq ys (k + j) (by rw [Hlen.out]; exact hp), ← ho] at this
          exact this
        have Hstep := Lib.hid hstep; clear hstep
        by_cases hgo : j < lb ∨ 0 < cn
        · obtain ⟨hr1, hr2⟩ := Hroom.out hgo
          have hcO : wr.cell? ⟨w.heap.size, k + j, none⟩ = some (.int .i64 (o : Nat)) := by rw [ho]; exact own_cell hown Hlen.out hr1
          have hfO : wr.frozen? ⟨w.heap.size, k + j, none⟩ = false := hown.frozenAt (k + j)
          have hob : o < 10000 := by rw [ho, getD_eq _ _ (by rw [Hlen.out]; exact hr1)]; exact Hdig.out.get _ _
          have Ho := Lib.hid ho; clear ho
          by_cases hjb : j < lb
          · obtain ⟨bb, ob, rfl, hcB⟩ := (HB.out.below hbel (Nat.le_refl _)).at_ hjb
            have hdB := dg_lt 10000 y j (by omega)
            obtain ⟨E, hE⟩ : ∃ E, E = dg 10000 y j := ⟨_, rfl⟩
            rw [← hE] at hcB hdB
            have HE := Lib.hid hE; clear hE
            obtain ⟨hp0, hp1⟩ := prod_bd D E hdA hdB
            have hbel2 := hbel.setCell (p := ⟨w.heap.size, k + j, none⟩) (Nat.le_refl _) (.int .i64 (((cn : Int) + o + D * E) % 10000))
            have hown2 := own_stored (j := k + j) (x := ((cn : Int) + o + D * E) % 10000) (y := (cn + o + D * E) % 10000) (by simp) hown
            have hc2 : ((cn : Int) + o + D * E) / 10000 = (((cn + o + D * E) / 10000 : Nat) : Int) := by simp
            have Hc2 := Lib.hid hc2; clear hc2
            have hc3 : (cn + o + D * E) / 10000 ≤ 9999 := by
              have := Nat.mul_le_mul (Nat.le_of_lt_succ hdA) (Nat.le_of_lt_succ hdB)
              omega
            have Hc3 := Lib.hid hc3; clear hc3
            clear hown hbel
            go_wp2_with fail
            go_roundw
            case rel => exact ⟨(cn + o + D * E) / 10000, j + 1, _, by rw [Hc2.out], Hc3.out, by go_num, by omega, by rw [List.length_set]; exact Hlen.out, Dig.set (b := 10000) Hdig.out _ _ (Nat.mod_lt _ (by omega)), Hstep.out _ _ E hr1 (by omega) HE.out, hown2, hbel2⟩
            case measure => simp [intOf]; omega
          · have hbel2 := hbel.setCell (p := ⟨w.heap.size, k + j, none⟩) (Nat.le_refl _) (.int .i64 (((cn : Int) + o) % 10000))
            have hown2 := own_stored (j := k + j) (x := ((cn : Int) + o) % 10000) (y := (cn + o) % 10000) (by omega) hown
            have hc0 : 0 < cn := by omega
            clear hgo
            have HE : Hid (0 = dg 10000 y j) := Lib.hid (dg_high 10000 y j (by omega) (by rw [← Hlb.out]; omega)).symm
            clear hown hbel
            go_wp2_with fail
            go_roundw
            case rel => exact ⟨(cn + o) / 10000, j + 1, _, by go_num, by omega, by go_num, by omega, by rw [List.length_set]; exact Hlen.out, Dig.set (b := 10000) Hdig.out _ _ (Nat.mod_lt _ (by omega)), Hstep.out _ _ 0 hr1 (by omega) HE.out, hown2, hbel2⟩
            case measure => simp [intOf]; omega
        · have hjb : ¬ j < lb := by omega
          obtain rfl : cn = 0 := by omega
          have He := Lib.hid (Hend.out hgo)
          clear hgo
          go_wp2_with fail
          go_roundw
          case rel => exact ⟨k + 1, ys, by go_num, by omega, Hlen.out, Hdig.out, He.out, hown, hbel⟩
          case measure => simp [intOf]; omega
    · obtain rfl : k = la := by omega
      go_wp2_with (go_at_call 33; refine (trim_any _ xs _ Hdig.out (by rw [Hlen.out]; exact rowF_own xs Hlen.out hown)).mono ?_; rintro e w' ⟨⟨v', rfl, hv'⟩, rfl⟩)
      go_ret
      refine ⟨⟨_, rfl, ?_⟩, hbel⟩
      have e1 := Hval.out
      rw [mod_pow_ln _ x k (by omega) (by rw [← Hla.out]; omega)] at e1
      rwa [e1] at hv'

end Go.Proofs.YtbcckgofoknmbaaDoor
/-
  The model's long division: a digit a round, each found by halving; and the greatest common divisor by it.
-/
namespace Go.Proofs.YtbcckgofoknmbaaDoor
open Go.RowKit Num

/-- The elements of a row as cells. -/
def cellsOf (k : IntKind) (d : Nat → Nat) (m : Nat) : List Value := (List.range m).map fun j => .int k (d j : Nat)

theorem cellsOf_get {k : IntKind} {d : Nat → Nat} {m j : Nat} {u : Value} (h : (cellsOf k d m)[j]? = some u) : j < m ∧ u = .int k (d j : Nat) := by
  unfold cellsOf at h
  rw [List.getElem?_map] at h
  by_cases hj : j < m
  · rw [List.getElem?_range hj] at h
    exact ⟨hj, by simpa using h.symm⟩
  · rw [List.getElem?_eq_none (by simp; omega)] at h
    simp at h

/-- append onto a row of the call's own, the source a row of numbers, nil or not. -/
theorem wpList_append_rowF {P : Program} {w : World} {ops : Array Oper} {rest : List Oper} {o : Oper} {a : Act} {Q : Exit → Act → World → Prop} (hgd : o.guard = none) (s x : Operand) (t : TypeId)
    (ho : o.op = .call { callee := .builtin .append, args := #[s, x], argTypes := #[t, t] })
    (base : Nat) (e : TypeId) (i : TypeInfo) (z : Value) (bytes : Nat) (ht : P.underlying t = some (.slice e)) (hi : P.info? e = some i) (hz : i.zero = some z)
    (hsize : i.size = 1) (hby : i.bytes = bytes) (hzs : z.cells.size = 1)
    (v : Value) (n : Nat) (xs : List Value) (hs : a.eval s = v) (hown : w.ownsRow base e 1 v n xs)
    (k : IntKind) (vs : Value) (m : Nat) (d : Nat → Nat) (hx : a.eval x = vs) (hr : RowF e k w vs m d)
    (h63 : n + m ≤ maxLen) (hbytes : (n + m) * bytes ≤ 140737488355328) (hbase : base ≤ w.heap.size)
    (h : ∀ v' w', w'.ownsRow base e 1 v' (n + m) (xs ++ cellsOf k d m) → w.grownBy w' v.ownBlock → wpList P ops Q rest (a.put o.dst v') w') : wpList P ops Q (o :: rest) a w := by
  rcases hr with ⟨rfl, rfl⟩ | ⟨b, off, cap, rfl, h1, h2, h3, h4⟩
  · exact wpList_append_own_none hgd s x t ho base e i 1 ht hi v n xs hs hown hx (h v w (by simpa [cellsOf] using hown) (World.grownBy.refl w _))
  · refine wpList_append_own w hgd s x t ho base e i z 1 bytes ht hi hz hsize hby hzs (by omega) v n xs hs hown ⟨b, off, none⟩ m cap (cellsOf k d m) hx (by simp [cellsOf]) ?_ ?_ h63 hbytes hbase fun v' w' h5 h6 _ => h v' w' h5 h6
    · intro j u hu
      obtain ⟨hj, rfl⟩ := cellsOf_get hu
      have e : (⟨b, off, none⟩ : Addr).add j = ⟨b, off + j, none⟩ := by unfold Addr.add; split <;> simp_all
      rw [e]; exact h4 j hj
    · intro u hu
      obtain ⟨j, hj⟩ := List.getElem?_of_mem hu
      obtain ⟨_, rfl⟩ := cellsOf_get hj
      rfl

theorem cellsOf_digs (k : IntKind) (b x : Nat) : cellsOf k (dg b x) (ln b x) = (digs b x).map fun x => Value.int k (x : Nat) := by
  apply List.ext_getElem
  · simp [cellsOf, length_digs]
  · intro j h1 h2
    simp only [cellsOf, List.length_map, List.length_range] at h1
    have h3 : j < (digs b x).length := h1
    simp [cellsOf, dg, List.getD, h3]

theorem below_own {w w' : World} {B base : Nat} {e : TypeId} {v : Value} {n : Nat} {xs : List Value} (h : w.ownsRow base e 1 v n xs) (hb : Below B w w') (hB : w.heap.size ≤ B) : w'.ownsRow base e 1 v n xs := by
  refine h.kept (row := none) ⟨hb.os, hb.tape, hb.output, hb.size, fun k hk _ => hb.block k (by omega)⟩ ?_
  cases v.ownBlock <;> simp

/-- One step of the division of x by y: the digits from k on are divided. -/
theorem div_step (x y k : Nat) (hy : 0 < y) : x / 10000 ^ k / y = 10000 * (x / 10000 ^ (k + 1) / y) + (dg 10000 x k + 10000 * (x / 10000 ^ (k + 1) % y)) / y ∧ x / 10000 ^ k % y = (dg 10000 x k + 10000 * (x / 10000 ^ (k + 1) % y)) % y := by
  have e1 : x / 10000 ^ k = 10000 * (x / 10000 ^ (k + 1)) + dg 10000 x k := by
    rw [dg_eq 10000 (by omega), Nat.pow_succ, ← Nat.div_div_eq_div_mul]
    omega
  have e2 := Nat.div_add_mod (x / 10000 ^ (k + 1)) y
  have e3 : x / 10000 ^ k = (dg 10000 x k + 10000 * (x / 10000 ^ (k + 1) % y)) + y * (10000 * (x / 10000 ^ (k + 1) / y)) := by
    rw [e1, Nat.mul_left_comm]
    omega
  rw [e3]
  constructor
  · rw [Nat.add_mul_div_left _ _ hy]; omega
  · rw [Nat.add_mul_mod_self_left]

theorem digit_lt (r d y : Nat) (hr : r < y) (hd : d < 10000) : (d + 10000 * r) / y < 10000 := by
  apply Nat.div_lt_of_lt_mul
  have : 10000 * r + 10000 ≤ 10000 * y := by omega
  rw [Nat.mul_comm]; omega

theorem fromInt_int (z : Int) (w : World) (h0 : 0 ≤ z) (h1 : z ≤ 9999) :
    Calls Tryd.prog 49 #[.int .i64 z] w fun e w' => (∃ v, e = .returned v ∧ Nums 3 .i64 10000 w' v z.toNat) ∧ Below w.heap.size w w' := by
  obtain ⟨n, rfl⟩ := Int.eq_ofNat_of_zero_le h0
  exact fromInt_any n w (by omega)

theorem fromInt_eq (z : Int) (n : Nat) (w : World) (h0 : z = (n : Nat)) (h1 : n ≤ 9999) :
    Calls Tryd.prog 49 #[.int .i64 z] w fun e w' => (∃ v, e = .returned v ∧ Nums 3 .i64 10000 w' v n) ∧ Below w.heap.size w w' := by
  subst h0
  exact fromInt_any n w (by omega)

theorem cmpNat_le (va vb : Value) (x y : Nat) (w : World) (ha : Nums 3 .i64 10000 w va x) (hb : Nums 3 .i64 10000 w vb y) (h : x ≤ y) :
    Calls Tryd.prog 24 #[va, vb] w fun e w' => ∃ c : Int, e = .returned (.int .i64 c) ∧ c ≤ 0 ∧ ∃ nq, w' = w.drewN nq :=
  (cmpNat_any va vb x y w ha hb).mono fun e w' ⟨he, hw⟩ => ⟨_, he, by unfold cmpI; split <;> (try split) <;> omega, hw⟩

theorem cmpNat_gt (va vb : Value) (x y : Nat) (w : World) (ha : Nums 3 .i64 10000 w va x) (hb : Nums 3 .i64 10000 w vb y) (h : y < x) :
    Calls Tryd.prog 24 #[va, vb] w fun e w' => ∃ c : Int, e = .returned (.int .i64 c) ∧ 0 < c ∧ ∃ nq, w' = w.drewN nq :=
  (cmpNat_any va vb x y w ha hb).mono fun e w' ⟨he, hw⟩ => ⟨_, he, by unfold cmpI; split <;> (try split) <;> omega, hw⟩

theorem ln_small (n : Nat) (h : n < 10000) : ln 10000 n ≤ 1 := ln_le_of_lt _ _ _ (by omega) (by omega)

theorem app_row {w1 : World} {base : Nat} {v : Value} {D r : Nat} (h : w1.ownsRow base 3 1 v (1 + ln 10000 r) ([.int .i64 (D : Nat)] ++ cellsOf .i64 (dg 10000 r) (ln 10000 r))) : RowF 3 .i64 w1 v (D :: digs 10000 r).length fun j => (D :: digs 10000 r).getD j 0 := by
  rw [cellsOf_digs] at h
  exact rowF_own (base := base) (e := 3) (D :: digs 10000 r) rfl (by rw [show (D :: digs 10000 r).length = 1 + ln 10000 r from by rw [List.length_cons, length_digs]; omega]; simpa using h)

theorem own_not_below {w1 : World} {base g : Nat} {e : TypeId} {v : Value} {n : Nat} {xs : List Value} (h : w1.ownsRow base e 1 v n xs) (hg : g < base) : v.ownBlock ≠ some g := fun e => by
  have := (h.lt g e).1
  omega

theorem built_below {wr w1 : World} {o : Obj} (hg : (wr.alloc o).grownBy w1 (some wr.heap.size)) : Below wr.heap.size wr w1 :=
  ((Below.refl _ wr).alloc (Nat.le_refl _) o).grown hg (by simp) (fun k hk => by cases hk; exact Nat.le_refl _)

set_option maxRecDepth 100000 in
set_option maxHeartbeats 4000000 in
theorem divNat_any (va vb : Value) (x y : Nat) (w : World) (ha : Nums 3 .i64 10000 w va x) (hb : Nums 3 .i64 10000 w vb y) (hy : 0 < y) (hlx : ln 10000 x ≤ 549755813888) (hly : ln 10000 y ≤ 549755813888) :
    Calls Tryd.prog 31 #[va, vb] w fun e w' => (∃ v v', e = .returned (.tuple #[v, v']) ∧ Nums 3 .i64 10000 w' v (x / y) ∧ Nums 3 .i64 10000 w' v' (x % y)) ∧ Below w.heap.size w w' := by
  obtain ⟨i0, hi, hz0, hz1, hz2⟩ := info_parts Tryd.info_int
  obtain ⟨Aa, ca, rfl, hca, hca', hA⟩ := RowF.open ha
  clear ha
  have HA : Hid (RowA .i64 w Aa (ln 10000 x) (dg 10000 x)) := Lib.hid hA; clear hA
  have HB := Lib.hid hb; clear hb
  obtain ⟨la, hla⟩ : ∃ la, la = ln 10000 x := ⟨_, rfl⟩
  rw [← hla] at HA hca hlx ⊢
  have Hla := Lib.hid hla; clear hla
  go_enter Tryd.func31, Tryd.ntmps31
  go_wp2_with (at_make; refine wpList_make_full _ rfl _ _ 34 rfl w.heap.size 3 i0 (.int .i64 0) 1 Tryd.underlying34 hi hz0 hz1 _ _ _ _ la rfl rfl (by omega) (by omega) ?b2 ?b3 (Nat.le_refl _) ?_)
  case b2 => rw [hz2]; omega
  case b3 => unfold maxLen; omega
  intro w0 hown0 hgrow0
  have hown1 := made_own hown0
  have hbel0 : Below w.heap.size w w0 := (Below.refl _ _).grown hgrow0 (Nat.le_refl _) (fun k h => by cases h)
  have hlt0 : w.heap.size < w0.heap.size := by
    have := hown1.lt w.heap.size rfl
    omega
  clear hown0 hgrow0
  go_wp2_with fail
  go_loopw [7, 8] (fun vr i wr => ∃ (k : Nat) (xs : List Nat), i = .int .i64 ((k : Int) - 1) ∧ k ≤ la ∧ xs.length = la ∧ Dig 10000 xs ∧ val 10000 (xs.drop k) = x / 10000 ^ k / y ∧ Nums 3 .i64 10000 wr vr (x / 10000 ^ k % y) ∧ wr.ownsRow w.heap.size 3 1 (.slice (some ⟨w.heap.size, 0, none⟩) la la) la (xs.map fun x => .int .i64 (x : Nat)) ∧ Below w.heap.size w wr ∧ w.heap.size < wr.heap.size) (fun _ i _ => ((intOf i) + 1).toNat)
  case atStart =>
    have hdone : x / 10000 ^ la = 0 := Nat.div_eq_of_lt (by rw [Hla.out]; exact lt_pow_ln 10000 x (by omega))
    exact ⟨la, _, rfl, by omega, by simp, (fun x hx => by rw [List.eq_of_mem_replicate hx]; omega), by rw [List.drop_of_length_le (by simp), hdone]; simp [val], by rw [hdone]; simp; exact .inl ⟨rfl, rfl⟩, hown1, hbel0, hlt0⟩
  case round =>
    clear hown1 hbel0 hlt0
    obtain ⟨k, xs, rfl, hkl, hlen, hdig, hval, hrem, hown, hbel, hlt⟩ := hrel
    have Hlen := Lib.hid hlen; clear hlen
    have Hdig := Lib.hid hdig; clear hdig
    have Hval := Lib.hid hval; clear hval
    by_cases hk0 : 1 ≤ k
    · obtain ⟨q, rfl⟩ : ∃ q, k = q + 1 := ⟨k - 1, by omega⟩
      obtain ⟨ba, oa, rfl, hcA⟩ := (HA.out.below hbel (Nat.le_refl _)).at_ (show q < la by omega)
      have hdA := dg_lt 10000 x q (by omega)
      obtain ⟨r, hr⟩ : ∃ r, r = x / 10000 ^ (q + 1) % y := ⟨_, rfl⟩
      rw [← hr] at hrem
      have hry : r < y := by rw [hr]; exact Nat.mod_lt _ hy
      obtain ⟨D, hD⟩ : ∃ D, D = dg 10000 x q := ⟨_, rfl⟩
      rw [← hD] at hcA hdA
      have hstep := div_step x y q hy
      rw [← hr, ← hD] at hstep
      have Hstep := Lib.hid hstep; clear hstep
      have hqd : (D + 10000 * r) / y < 10000 := digit_lt r D y hry hdA
      obtain ⟨R, hR⟩ : ∃ R, R = D + 10000 * r := ⟨_, rfl⟩
      rw [← hR] at hqd
      have hlr : ln 10000 r ≤ 549755813888 := Nat.le_trans (ln_mono _ _ _ (by omega) (Nat.le_of_lt hry)) hly
      have hlR : ln 10000 R ≤ 549755813895 := by
        have h1 := ln_add 10000 D (10000 * r) (by omega)
        have h2 := ln_mul 10000 10000 r (by omega)
        have h3 : ln 10000 10000 ≤ 2 := ln_le_of_lt _ _ _ (by omega) (by omega)
        have h4 := ln_small D hdA
        rw [hR]; omega
      have HR := Lib.hid hR; clear hR
      have Hr := Lib.hid hr; clear hr
      have HD := Lib.hid hD; clear hD
      have hsz := hbel.size
      have hn0 : 1 + ln 10000 r ≤ maxLen := by unfold maxLen; omega
      have Hn0 := Lib.hid hn0; clear hn0
      have hrem2 : RowF 3 .i64 (wr.alloc (.cells #[.int .i64 (D : Nat)] 3)) u7 (ln 10000 r) (dg 10000 r) := hrem.below ((Below.refl _ wr).alloc (Nat.le_refl _) _) (Nat.le_refl _)
      have hlit : (wr.alloc (.cells #[.int .i64 (D : Nat)] 3)).ownsRow wr.heap.size 3 1 (.slice (some ⟨wr.heap.size, 0, none⟩) 1 1) 1 [.int .i64 (D : Nat)] := World.ownsRow_lit wr #[.int .i64 (D : Nat)] 1 (Nat.le_refl _) (by unfold maxLen; omega) (by simp)
      have Hrem2 := Lib.hid hrem2; clear hrem2
      have Hlit := Lib.hid hlit; clear hlit
      go_wp2_with (first
        | (at_builtin; refine wpList_append_rowF rfl _ _ 34 rfl wr.heap.size 3 i0 (.int .i64 0) 8 Tryd.underlying34 hi hz0 hz1 hz2 rfl _ 1 _ rfl Hlit.out .i64 u7 (ln 10000 r) (dg 10000 r) rfl Hrem2.out Hn0.out (by omega) (by simp) ?_; intro v1 w1 hown1 hgrow1; have hb1 := built_below hgrow1; have hrow1 := app_row hown1; have hat1 := own_not_below hown1 hlt; clear hown1 hgrow1)
        | (go_at_call 33; refine (trim_at _ (D :: digs 10000 r) _ ((dig_digs 10000 (by omega) r).cons hdA) hrow1).mono ?_; rintro e w' ⟨⟨v2, rfl, hv2, hat2⟩, rfl⟩))
      have hown1 := below_own hown hb1 (Nat.le_refl _)
      have hbel1 := hbel.trans (hb1.mono hsz)
      have hlt1 : w.heap.size < w1.heap.size := Nat.lt_of_lt_of_le hlt hb1.size
      have hvR : Nums 3 .i64 10000 w1 v2 R := by
        rw [HR.out]
        have e : val 10000 (D :: digs 10000 r) = D + 10000 * r := by simp only [val, val_digs 10000 (by omega)]
        rwa [e] at hv2
      have hat3 : v2.ownBlock ≠ some w.heap.size := by rw [hat2]; exact hat1
      have Hat := Lib.hid hat3; clear hat3 hat1 hat2
      have hcQ := own_cell (j := q) hown1 Hlen.out (by omega)
      clear hrem hown hbel hlt hcA hrow1 hb1 hv2 hsz hcQ
      go_loopw [9, 10] (fun lo hi wr => ∃ l h : Nat, lo = .int .i64 (l : Nat) ∧ hi = .int .i64 (h : Nat) ∧ l ≤ h ∧ h ≤ 9999 ∧ y * l ≤ R ∧ R < y * (h + 1) ∧ Below w1.heap.size w1 wr) (fun lo hi _ => (intOf hi).toNat - (intOf lo).toNat)
      case atStart => exact ⟨0, 9999, rfl, rfl, by omega, by omega, by omega, by have := (Nat.div_lt_iff_lt_mul hy).1 hqd; rw [Nat.mul_comm]; exact this, Below.refl _ _⟩
      case round =>
        obtain ⟨l, h, rfl, rfl, hlh, hh, hl1, hh1, hb2⟩ := hrel
        have Hl1 := Lib.hid hl1; clear hl1
        have Hh1 := Lib.hid hh1; clear hh1
        have hsz2 := hb2.size
        by_cases hgo : l < h
        · have hbelr := hbel1.trans (hb2.mono (Nat.le_of_lt hlt1))
          have hszr := hbelr.size
          have hvr := hvR.below hb2 (Nat.le_refl _)
          obtain ⟨M, hM⟩ : ∃ M, M = (l + h + 1) / 2 := ⟨_, rfl⟩
          have hM1 : l < M := by omega
          have hM2 : M ≤ h := by omega
          have hlM : ln 10000 M ≤ 1099511627776 := Nat.le_trans (ln_small M (by omega)) (by omega)
          have hly' : ln 10000 y ≤ 1099511627776 := by omega
          by_cases hle : y * M ≤ R
          · go_wp2_with (first
              | (go_at_call 49; refine (fromInt_eq _ M _ (by omega) (by omega)).mono ?_; rintro e w3 ⟨⟨v3, rfl, hv3⟩, hb3⟩)
              | (go_at_call 22; refine (mulNat_any _ _ y M _ (HB.out.below (hbelr.trans (hb3.mono hszr)) (Nat.le_refl _)) hv3 hly' hlM).mono ?_; rintro e w4 ⟨⟨v4, rfl, hv4⟩, hb4⟩)
              | (go_at_call 24; refine (cmpNat_le _ _ (y * M) R _ hv4 (hvr.below (hb3.trans (hb4.mono hb3.size)) (Nat.le_refl _)) hle).mono ?_; rintro e w5 ⟨c, rfl, hc, nq, rfl⟩))
            go_roundw
            case rel => exact ⟨M, h, by rw [hM]; go_num, rfl, by omega, by omega, hle, Hh1.out, below_drewN nq (hb2.trans ((hb3.trans (hb4.mono hb3.size)).mono hsz2))⟩
            case measure => simp [intOf]; omega
          · go_wp2_with (first
              | (go_at_call 49; refine (fromInt_eq _ M _ (by omega) (by omega)).mono ?_; rintro e w3 ⟨⟨v3, rfl, hv3⟩, hb3⟩)
              | (go_at_call 22; refine (mulNat_any _ _ y M _ (HB.out.below (hbelr.trans (hb3.mono hszr)) (Nat.le_refl _)) hv3 hly' hlM).mono ?_; rintro e w4 ⟨⟨v4, rfl, hv4⟩, hb4⟩)
              | (go_at_call 24; refine (cmpNat_gt _ _ (y * M) R _ hv4 (hvr.below (hb3.trans (hb4.mono hb3.size)) (Nat.le_refl _)) (by omega)).mono ?_; rintro e w5 ⟨c, rfl, hc, nq, rfl⟩))
            go_roundw
            case rel => exact ⟨l, M - 1, rfl, by rw [hM]; go_num, by omega, by omega, Hl1.out, by rw [show M - 1 + 1 = M from by omega]; omega, below_drewN nq (hb2.trans ((hb3.trans (hb4.mono hb3.size)).mono hsz2))⟩
            case measure => simp [intOf]; omega
        · obtain rfl : h = l := by omega
          have hdig : R / y = h := Nat.div_eq_of_lt_le (by rw [Nat.mul_comm]; exact Hl1.out) (by rw [Nat.mul_comm]; exact Hh1.out)
          have Hdg := Lib.hid hdig; clear hdig
          have hown2 := below_own hown1 hb2 (Nat.le_refl _)
          have hcQ : wr.cell? ⟨w.heap.size, q, none⟩ = some (.int .i64 (xs.getD q 0 : Nat)) := own_cell hown2 Hlen.out (by omega)
          have hfQ : wr.frozen? ⟨w.heap.size, q, none⟩ = false := hown2.frozenAt q
          have hown3 := own_stored (j := q) (x := (h : Int)) (y := h) rfl hown2
          have hbel3 := (hbel1.trans (hb2.mono (Nat.le_of_lt hlt1))).setCell (p := ⟨w.heap.size, q, none⟩) (Nat.le_refl _) (.int .i64 (h : Nat))
          have hv3 := (hvR.below hb2 (Nat.le_refl _)).setCell (p := ⟨w.heap.size, q, none⟩) Hat.out (.int .i64 (h : Nat))
          have hB3 := HB.out.below hbel3 (Nat.le_refl _)
          have Hown3 := Lib.hid hown3; clear hown3 hown2
          have Hv3 := Lib.hid hv3; clear hv3
          have HB3 := Lib.hid hB3; clear hB3
          have Hbel3 := Lib.hid hbel3; clear hbel3
          have hyl : y * h ≤ R := Hl1.out
          obtain ⟨Y, hY⟩ : ∃ Y, Y = y * h := ⟨_, rfl⟩
          have hYb : ln 10000 Y ≤ 549755813900 := Nat.le_trans (ln_mono _ _ _ (by omega) (by rw [hY]; exact hyl)) (by omega)
          have HY := Lib.hid hY; clear hY hyl
          have hly' : ln 10000 y ≤ 1099511627776 := by omega
          have hlh : ln 10000 h ≤ 1099511627776 := Nat.le_trans (ln_small h (by omega)) (by omega)
          go_wp2_with (first
            | (go_at_call 49; refine (fromInt_eq _ h _ rfl (by omega)).mono ?_; rintro e w3 ⟨⟨v3, rfl, hv3⟩, hb3⟩)
            | (go_at_call 22; refine (mulNat_any _ _ y h _ (HB3.out.below hb3 (Nat.le_refl _)) hv3 hly' hlh).mono ?_; rintro e w4 ⟨⟨v4, rfl, hv4⟩, hb4⟩)
            | (go_at_call 25; refine (subNat_any _ _ R (y * h) _ (Hv3.out.below (hb3.trans (hb4.mono hb3.size)) (Nat.le_refl _)) hv4 (by omega) Hl1.out).mono ?_; rintro e w5 ⟨⟨v5, rfl, hv5⟩, hb5⟩))
          have hbs := (hb3.trans (hb4.mono hb3.size)).trans (hb5.mono (hb3.trans (hb4.mono hb3.size)).size)
          have hown5 := below_own Hown3.out hbs (Nat.le_refl _)
          have hbel5 := Hbel3.out.trans (hbs.mono Hbel3.out.size)
          have hlt5 : w.heap.size < w5.heap.size := by
            have h1 := hbs.size
            have h2 := hb2.size
            simp [World.setCell] at h1
            omega
          have hmod : R - y * h = R % y := by
            have := Nat.div_add_mod R y
            rw [Hdg.out] at this
            omega
          rw [hmod] at hv5
          have Hmod := Lib.hid hmod; clear hmod
          clear hb3 hb4 hb5 hbs hv3 hv4
          go_roundw
          case rel => exact ⟨q, xs.set q h, by go_num, by omega, by rw [List.length_set]; exact Hlen.out, Dig.set (b := 10000) Hdig.out _ _ (by omega), by
            rw [val_drop_step _ _ _ (by rw [List.length_set, Hlen.out]; omega), List.getElem_set_self, List.drop_set_of_lt (Nat.lt_add_one _), Hval.out, Hstep.out.1, ← HR.out, Hdg.out]; exact Nat.add_comm _ _, by
            rw [Hstep.out.2, ← HR.out]; exact hv5, hown5, hbel5, hlt5⟩
          case measure => simp [intOf]
    · obtain rfl : k = 0 := by omega
      go_wp2_with (go_at_call 33; refine (trim_any _ xs _ Hdig.out (by rw [Hlen.out]; exact rowF_own xs Hlen.out hown)).mono ?_; rintro e w' ⟨⟨v', rfl, hv'⟩, rfl⟩)
      go_ret2
      have e1 := Hval.out
      simp only [List.drop_zero, Nat.pow_zero, Nat.div_one] at e1 hrem
      rw [e1] at hv'
      exact ⟨⟨_, _, rfl, hv', hrem⟩, hbel⟩

theorem lnz {b x : Nat} (hb : 2 ≤ b) (h : 0 < x) : 0 < ln b x := by
  have := (ln_eq_zero b x hb)
  omega

set_option maxRecDepth 100000 in
set_option maxHeartbeats 1600000 in
/-- The model's greatest common divisor. -/
theorem gcdNat_any (va vb : Value) (x y : Nat) (w : World) (ha : Nums 3 .i64 10000 w va x) (hb : Nums 3 .i64 10000 w vb y) (hlx : ln 10000 x ≤ 549755813888) (hly : ln 10000 y ≤ 549755813888) :
    Calls Tryd.prog 18 #[va, vb] w fun e w' => (∃ v, e = .returned v ∧ Nums 3 .i64 10000 w' v (Nat.gcd x y)) ∧ Below w.heap.size w w' := by
  have Ha := Lib.hid ha; clear ha
  have Hb := Lib.hid hb; clear hb
  go_enter Tryd.func18, Tryd.ntmps18
  go_wp2_with fail
  go_loopg [0, 1] y (fun q va vb wr => ∃ p : Nat, Nums 3 .i64 10000 wr va p ∧ Nums 3 .i64 10000 wr vb q ∧ ln 10000 p ≤ 549755813888 ∧ ln 10000 q ≤ 549755813888 ∧ Nat.gcd p q = Nat.gcd x y ∧ Below w.heap.size w wr)
  case atStart => exact ⟨x, Ha.out, Hb.out, hlx, hly, rfl, Below.refl _ _⟩
  case round =>
    obtain ⟨p, hp, hq, hlp, hlq, hg, hbel⟩ := hrel
    have Hg := Lib.hid hg; clear hg
    have Hp := Lib.hid hp; clear hp
    have Hq := Lib.hid hq; clear hq
    obtain ⟨Ab, cb, rfl, hcb, hcb', _⟩ := RowF.open Hq.out
    by_cases h0 : 0 < gk
    · have hl0 := lnz (b := 10000) (by omega) h0
      go_wp2_with (go_at_call 31; refine (divNat_any _ _ p gk _ Hp.out Hq.out h0 hlp hlq).mono ?_; rintro e w3 ⟨⟨v3, v4, rfl, hv3, hv4⟩, hb3⟩)
      go_roundg (p % gk)
      case rel => exact ⟨gk, Hq.out.below hb3 (Nat.le_refl _), hv4, hlq, Nat.le_trans (ln_mono _ _ _ (by omega) (Nat.le_of_lt (Nat.mod_lt _ h0))) hlq, by rw [← Hg.out, Nat.gcd_comm p gk, Nat.gcd_rec gk p, Nat.gcd_comm], hbel.trans (hb3.mono hbel.size)⟩
      case measure => exact Nat.mod_lt _ h0
    · obtain rfl : gk = 0 := by omega
      have hl0 : ¬ 0 < ln 10000 0 := by simp [ln_zero]
      rw [ln_zero]
      go_wp2_with fail
      go_ret
      refine ⟨⟨_, rfl, ?_⟩, hbel⟩
      rw [← Hg.out, Nat.gcd_zero_right]
      exact Hp.out

end Go.Proofs.YtbcckgofoknmbaaDoor
/-
  The model's rational numbers: lowest terms, products, sums, comparison.
-/
namespace Go.Proofs.YtbcckgofoknmbaaDoor
open Go.RowKit Num

/-- The model's number: a sign and two natural numbers. -/
def IsQ (w : World) (v : Value) (neg : Bool) (n d : Nat) : Prop :=
  ∃ vn vd, v = .agg #[.bool neg, vn, vd] ∧ Nums 3 .i64 10000 w vn n ∧ Nums 3 .i64 10000 w vd d

theorem gcd_pos_right {n d : Nat} (h : 0 < d) : 0 < Nat.gcd n d := Nat.pos_of_ne_zero fun e => by
  have := Nat.gcd_eq_zero_iff.1 e
  omega

theorem ln_gcd (n d : Nat) (hd : 0 < d) : ln 10000 (Nat.gcd n d) ≤ ln 10000 d := ln_mono _ _ _ (by omega) (Nat.le_of_dvd hd (Nat.gcd_dvd_right n d))


set_option maxRecDepth 100000 in
set_option maxHeartbeats 1600000 in
theorem lowest_pos (vn vd : Value) (n d g : Nat) (w : World) (hn : Nums 3 .i64 10000 w vn n) (hd : Nums 3 .i64 10000 w vd d) (h0 : 0 < d) (hln : ln 10000 n ≤ 549755813888) (hld : ln 10000 d ≤ 549755813888) (hg : g = Nat.gcd n d) :
    Calls Tryd.prog 20 #[.agg #[.bool false, vn, vd]] w fun e w' => (∃ v, e = .returned v ∧ IsQ w' v false (n / g) (d / g)) ∧ Below w.heap.size w w' := by
  have Hn := Lib.hid hn; clear hn
  have Hd := Lib.hid hd; clear hd
  have hg0 : 0 < g := by rw [hg]; exact gcd_pos_right h0
  have hlg : ln 10000 g ≤ 549755813888 := by rw [hg]; exact Nat.le_trans (ln_gcd n d h0) hld
  have Hg := Lib.hid hg; clear hg
  have hA0 := (Box.new w 36 #[.bool false, vn, vd]).alloc (.cells #[.bool false, .slice none 0 0, .slice none 0 0] 36)
  have hR0 := Box.new (w.alloc (.cells #[.bool false, vn, vd] 36)) 36 #[.bool false, .slice none 0 0, .slice none 0 0]
  rw [show (w.alloc (.cells #[.bool false, vn, vd] 36)).heap.size = w.heap.size + 1 from by simp] at hR0
  go_enter Tryd.func20, Tryd.ntmps20
  go_wp2_with (first
    | (go_at_call 18; refine (gcdNat_any vn vd n d _ (Hn.out.below (((Below.refl _ w).alloc (Nat.le_refl _) _).alloc (by simp) _) (Nat.le_refl _)) (Hd.out.below (((Below.refl _ w).alloc (Nat.le_refl _) _).alloc (by simp) _) (Nat.le_refl _)) hln hld).mono ?_; rintro e w1 ⟨⟨vg, rfl, hvg⟩, hb1⟩; rw [← Hg.out] at hvg; have hW1 := (((Below.refl _ w).alloc (Nat.le_refl _) _).alloc (by simp) _).trans (hb1.mono (by simp <;> omega)); have hz1 := two_size hb1; have hA1 := hA0.below hb1 (by simp <;> omega); have hR1 := hR0.below hb1 (by simp <;> omega); obtain ⟨a10, a11, a12, _, _, _⟩ := hA1.three; obtain ⟨r10, r11, r12, f10, f11, f12⟩ := hR1.three; clear hb1)
    | (go_at_call 31; ((with_reducible refine (divNat_any vn vg n g _ (Hn.out.below hW1 (Nat.le_refl _)) hvg hg0 hln hlg).mono ?_); rintro e w2 ⟨⟨v3, v4, rfl, hv3, hv4⟩, hb2⟩; have hA2 := hA1.below hb2 (by omega); have hR2 := hR1.below hb2 (by omega); obtain ⟨a20, a21, a22, _, _, _⟩ := hA2.three; obtain ⟨r20, r21, r22, f20, f21, f22⟩ := hR2.three; have hW2 := hW1.trans (hb2.mono (by omega)); have hz2 : w.heap.size + 2 ≤ w2.heap.size := (by have := hb2.size; omega); obtain ⟨A3, c3, rfl, _, _, _⟩ := RowF.open hv3))
    | (go_at_call 31; ((with_reducible refine (divNat_any vd vg d g _ (Hd.out.below hW2 (Nat.le_refl _)) (hvg.below hb2 (Nat.le_refl _)) hg0 hld hlg).mono ?_); rintro e w3 ⟨⟨v5, v6, rfl, hv5, hv6⟩, hb3⟩; have hA3 := hA2.below hb3 (by omega); have hR3 := hR2.below hb3 (by omega); obtain ⟨a30, a31, a32, _, _, _⟩ := hA3.three; obtain ⟨r30, r31, r32, f30, f31, f32⟩ := hR3.three; obtain ⟨A5, c5, rfl, _, _, _⟩ := RowF.open hv5)))
  obtain ⟨k0, k1, k2⟩ := hR3.put3 (.bool false) (.slice A3 (ln 10000 (n / g)) c3) (.slice A5 (ln 10000 (d / g)) c5)
  refine bodyPost_ret (v := .agg #[.bool false, .slice A3 (ln 10000 (n / g)) c3, .slice A5 (ln 10000 (d / g)) c5]) (by simp [results, Tryd.results20, go_sem, k0, k1, k2]) rfl ?_
  exact ⟨⟨_, rfl, _, _, rfl, (hv3.below hb3 (Nat.le_refl _)).put3 hR3 (by decide) _ _ _, hv5.put3 hR3 (by decide) _ _ _⟩, below_put3 (hW2.trans (hb3.mono (by omega))) (by omega) _ _ _⟩

set_option maxRecDepth 100000 in
set_option maxHeartbeats 1600000 in
theorem lowest_neg (vn vd : Value) (n d g : Nat) (w : World) (hn : Nums 3 .i64 10000 w vn n) (hd : Nums 3 .i64 10000 w vd d) (h0 : 0 < d) (hln : ln 10000 n ≤ 549755813888) (hld : ln 10000 d ≤ 549755813888) (hg : g = Nat.gcd n d) (hng : 0 < ln 10000 (n / g)) :
    Calls Tryd.prog 20 #[.agg #[.bool true, vn, vd]] w fun e w' => (∃ v, e = .returned v ∧ IsQ w' v true (n / g) (d / g)) ∧ Below w.heap.size w w' := by
  have Hn := Lib.hid hn; clear hn
  have Hd := Lib.hid hd; clear hd
  have hg0 : 0 < g := by rw [hg]; exact gcd_pos_right h0
  have hlg : ln 10000 g ≤ 549755813888 := by rw [hg]; exact Nat.le_trans (ln_gcd n d h0) hld
  have Hg := Lib.hid hg; clear hg
  have hA0 := (Box.new w 36 #[.bool true, vn, vd]).alloc (.cells #[.bool false, .slice none 0 0, .slice none 0 0] 36)
  have hR0 := Box.new (w.alloc (.cells #[.bool true, vn, vd] 36)) 36 #[.bool false, .slice none 0 0, .slice none 0 0]
  rw [show (w.alloc (.cells #[.bool true, vn, vd] 36)).heap.size = w.heap.size + 1 from by simp] at hR0
  go_enter Tryd.func20, Tryd.ntmps20
  go_wp2_with (first
    | (go_at_call 18; refine (gcdNat_any vn vd n d _ (Hn.out.below (((Below.refl _ w).alloc (Nat.le_refl _) _).alloc (by simp) _) (Nat.le_refl _)) (Hd.out.below (((Below.refl _ w).alloc (Nat.le_refl _) _).alloc (by simp) _) (Nat.le_refl _)) hln hld).mono ?_; rintro e w1 ⟨⟨vg, rfl, hvg⟩, hb1⟩; rw [← Hg.out] at hvg; have hW1 := (((Below.refl _ w).alloc (Nat.le_refl _) _).alloc (by simp) _).trans (hb1.mono (by simp <;> omega)); have hz1 := two_size hb1; have hA1 := hA0.below hb1 (by simp <;> omega); have hR1 := hR0.below hb1 (by simp <;> omega); obtain ⟨a10, a11, a12, _, _, _⟩ := hA1.three; obtain ⟨r10, r11, r12, f10, f11, f12⟩ := hR1.three; clear hb1)
    | (go_at_call 31; ((with_reducible refine (divNat_any vn vg n g _ (Hn.out.below hW1 (Nat.le_refl _)) hvg hg0 hln hlg).mono ?_); rintro e w2 ⟨⟨v3, v4, rfl, hv3, hv4⟩, hb2⟩; have hA2 := hA1.below hb2 (by omega); have hR2 := hR1.below hb2 (by omega); obtain ⟨a20, a21, a22, _, _, _⟩ := hA2.three; obtain ⟨r20, r21, r22, f20, f21, f22⟩ := hR2.three; have hW2 := hW1.trans (hb2.mono (by omega)); have hz2 : w.heap.size + 2 ≤ w2.heap.size := (by have := hb2.size; omega); obtain ⟨A3, c3, rfl, _, _, _⟩ := RowF.open hv3))
    | (go_at_call 31; ((with_reducible refine (divNat_any vd vg d g _ (Hd.out.below hW2 (Nat.le_refl _)) (hvg.below hb2 (Nat.le_refl _)) hg0 hld hlg).mono ?_); rintro e w3 ⟨⟨v5, v6, rfl, hv5, hv6⟩, hb3⟩; have hA3 := hA2.below hb3 (by omega); have hR3 := hR2.below hb3 (by omega); obtain ⟨a30, a31, a32, _, _, _⟩ := hA3.three; obtain ⟨r30, r31, r32, f30, f31, f32⟩ := hR3.three; obtain ⟨A5, c5, rfl, _, _, _⟩ := RowF.open hv5)))
  obtain ⟨k0, k1, k2⟩ := hR3.put3 (.bool true) (.slice A3 (ln 10000 (n / g)) c3) (.slice A5 (ln 10000 (d / g)) c5)
  refine bodyPost_ret (v := .agg #[.bool true, .slice A3 (ln 10000 (n / g)) c3, .slice A5 (ln 10000 (d / g)) c5]) (by simp [results, Tryd.results20, go_sem, k0, k1, k2]) rfl ?_
  exact ⟨⟨_, rfl, _, _, rfl, (hv3.below hb3 (Nat.le_refl _)).put3 hR3 (by decide) _ _ _, hv5.put3 hR3 (by decide) _ _ _⟩, below_put3 (hW2.trans (hb3.mono (by omega))) (by omega) _ _ _⟩

set_option maxRecDepth 100000 in
set_option maxHeartbeats 1600000 in
theorem lowest_zero (vn vd : Value) (n d g : Nat) (w : World) (hn : Nums 3 .i64 10000 w vn n) (hd : Nums 3 .i64 10000 w vd d) (h0 : 0 < d) (hln : ln 10000 n ≤ 549755813888) (hld : ln 10000 d ≤ 549755813888) (hg : g = Nat.gcd n d) (hng : ¬ 0 < ln 10000 (n / g)) :
    Calls Tryd.prog 20 #[.agg #[.bool true, vn, vd]] w fun e w' => (∃ v, e = .returned v ∧ IsQ w' v false (n / g) (d / g)) ∧ Below w.heap.size w w' := by
  have Hn := Lib.hid hn; clear hn
  have Hd := Lib.hid hd; clear hd
  have hg0 : 0 < g := by rw [hg]; exact gcd_pos_right h0
  have hlg : ln 10000 g ≤ 549755813888 := by rw [hg]; exact Nat.le_trans (ln_gcd n d h0) hld
  have Hg := Lib.hid hg; clear hg
  have hA0 := (Box.new w 36 #[.bool true, vn, vd]).alloc (.cells #[.bool false, .slice none 0 0, .slice none 0 0] 36)
  have hR0 := Box.new (w.alloc (.cells #[.bool true, vn, vd] 36)) 36 #[.bool false, .slice none 0 0, .slice none 0 0]
  rw [show (w.alloc (.cells #[.bool true, vn, vd] 36)).heap.size = w.heap.size + 1 from by simp] at hR0
  go_enter Tryd.func20, Tryd.ntmps20
  go_wp2_with (first
    | (go_at_call 18; refine (gcdNat_any vn vd n d _ (Hn.out.below (((Below.refl _ w).alloc (Nat.le_refl _) _).alloc (by simp) _) (Nat.le_refl _)) (Hd.out.below (((Below.refl _ w).alloc (Nat.le_refl _) _).alloc (by simp) _) (Nat.le_refl _)) hln hld).mono ?_; rintro e w1 ⟨⟨vg, rfl, hvg⟩, hb1⟩; rw [← Hg.out] at hvg; have hW1 := (((Below.refl _ w).alloc (Nat.le_refl _) _).alloc (by simp) _).trans (hb1.mono (by simp <;> omega)); have hz1 := two_size hb1; have hA1 := hA0.below hb1 (by simp <;> omega); have hR1 := hR0.below hb1 (by simp <;> omega); obtain ⟨a10, a11, a12, _, _, _⟩ := hA1.three; obtain ⟨r10, r11, r12, f10, f11, f12⟩ := hR1.three; clear hb1)
    | (go_at_call 31; ((with_reducible refine (divNat_any vn vg n g _ (Hn.out.below hW1 (Nat.le_refl _)) hvg hg0 hln hlg).mono ?_); rintro e w2 ⟨⟨v3, v4, rfl, hv3, hv4⟩, hb2⟩; have hA2 := hA1.below hb2 (by omega); have hR2 := hR1.below hb2 (by omega); obtain ⟨a20, a21, a22, _, _, _⟩ := hA2.three; obtain ⟨r20, r21, r22, f20, f21, f22⟩ := hR2.three; have hW2 := hW1.trans (hb2.mono (by omega)); have hz2 : w.heap.size + 2 ≤ w2.heap.size := (by have := hb2.size; omega); obtain ⟨A3, c3, rfl, _, _, _⟩ := RowF.open hv3))
    | (go_at_call 31; ((with_reducible refine (divNat_any vd vg d g _ (Hd.out.below hW2 (Nat.le_refl _)) (hvg.below hb2 (Nat.le_refl _)) hg0 hld hlg).mono ?_); rintro e w3 ⟨⟨v5, v6, rfl, hv5, hv6⟩, hb3⟩; have hA3 := hA2.below hb3 (by omega); have hR3 := hR2.below hb3 (by omega); obtain ⟨a30, a31, a32, _, _, _⟩ := hA3.three; obtain ⟨r30, r31, r32, f30, f31, f32⟩ := hR3.three; obtain ⟨A5, c5, rfl, _, _, _⟩ := RowF.open hv5)))
  obtain ⟨k0, k1, k2⟩ := hR3.put3 (.bool false) (.slice A3 (ln 10000 (n / g)) c3) (.slice A5 (ln 10000 (d / g)) c5)
  refine bodyPost_ret (v := .agg #[.bool false, .slice A3 (ln 10000 (n / g)) c3, .slice A5 (ln 10000 (d / g)) c5]) (by simp [results, Tryd.results20, go_sem, k0, k1, k2]) rfl ?_
  exact ⟨⟨_, rfl, _, _, rfl, (hv3.below hb3 (Nat.le_refl _)).put3 hR3 (by decide) _ _ _, hv5.put3 hR3 (by decide) _ _ _⟩, below_put3 (hW2.trans (hb3.mono (by omega))) (by omega) _ _ _⟩

theorem div_gcd_pos {n d : Nat} (hd : 0 < d) : 0 < n / Nat.gcd n d ↔ 0 < n := by
  have hg := gcd_pos_right (n := n) hd
  constructor
  · intro h
    rcases Nat.eq_zero_or_pos n with rfl | h'
    · simp at h
    · exact h'
  · intro h
    exact Nat.div_pos (Nat.le_of_dvd h (Nat.gcd_dvd_left n d)) hg

/-- The model's reduction to lowest terms. -/
theorem lowest_any (neg : Bool) (vn vd : Value) (n d : Nat) (w : World) (hn : Nums 3 .i64 10000 w vn n) (hd : Nums 3 .i64 10000 w vd d) (h0 : 0 < d) (hln : ln 10000 n ≤ 549755813888) (hld : ln 10000 d ≤ 549755813888) :
    Calls Tryd.prog 20 #[.agg #[.bool neg, vn, vd]] w fun e w' => (∃ v, e = .returned v ∧ IsQ w' v (neg && decide (0 < n)) (n / Nat.gcd n d) (d / Nat.gcd n d)) ∧ Below w.heap.size w w' := by
  have hp := div_gcd_pos (n := n) h0
  have hz := ln_eq_zero 10000 (n / Nat.gcd n d) (by omega)
  cases neg with
  | false => exact lowest_pos vn vd n d _ w hn hd h0 hln hld rfl
  | true =>
    by_cases h : 0 < n
    · rw [decide_eq_true h]
      exact lowest_neg vn vd n d _ w hn hd h0 hln hld rfl (by have := hp.2 h; omega)
    · rw [decide_eq_false h]
      exact lowest_zero vn vd n d _ w hn hd h0 hln hld rfl (by rw [hz.2 (Nat.eq_zero_of_not_pos fun h2 => h (hp.1 h2))]; omega)

end Go.Proofs.YtbcckgofoknmbaaDoor
/-
  Several texts in one: Text, TextB.
-/
/-
  The model's decimal numerals.
-/
namespace Go.Proofs.YtbcckgofoknmbaaDoor
open Go.RowKit Num

/-- The decimal numeral of n, as bytes. -/
def decL (n : Nat) : List UInt8 := if n = 0 then [48] else (digs 10 n).reverse.map fun d => UInt8.ofNat (48 + d)

theorem decL_small (n : Nat) (h : n < 10) : decL n = [UInt8.ofNat (48 + n)] := by
  unfold decL
  by_cases h0 : n = 0
  · subst h0; rfl
  · rw [if_neg h0, digs_small 10 n (by omega) (by omega) h]; rfl

theorem decL_len (n : Nat) (h : n < 100000) : (decL n).length ≤ 5 := by
  unfold decL
  split
  · simp
  · rw [List.length_map, List.length_reverse, length_digs]
    exact ln_le_of_lt _ _ _ (by omega) h

theorem decL_step (n : Nat) (h : 10 ≤ n) : decL n = decL (n / 10) ++ [UInt8.ofNat (48 + n % 10)] := by
  unfold decL
  rw [if_neg (by omega), if_neg (by omega), digs_pos 10 n (by omega) (by omega)]
  simp

set_option maxHeartbeats 400000 in
/-- A string of one byte out of a slice of one byte. -/
theorem conv_box {W : World} {g : Nat} {c : Int} (h : Box W g 5 #[.int .u8 c]) : (convert 74 9 (.slice (some ⟨g, 0, none⟩) 1 1)).run Tryd.prog W = .ok (.string ⟨#[UInt8.ofNat c.toNat]⟩) W :=
  run_convert_bytes_arg (P := Tryd.prog) W 74 5 Tryd.underlying74 Tryd.underlying5 g 0 1 1 [c] rfl (fun i hi => by
    obtain rfl : i = 0 := by omega
    exact h.cell 0) 9 Tryd.underlying9

theorem built_drew {w w1 : World} {t : TypeId} {cs : Array Value} (hb : Below (w.alloc (.cells cs t)).drew.heap.size (w.alloc (.cells cs t)).drew w1) : Box w1 w.heap.size t cs :=
  Box.below (w := (w.alloc (.cells cs t)).drew) (Box.new w t cs) hb (by show _ < (w.alloc (.cells cs t)).heap.size; simp)

/-- .. out of a new one. -/
theorem conv_one (w : World) (c : Int) : (convert 74 9 (.slice (some ⟨w.heap.size, 0, none⟩) 1 1)).run Tryd.prog (w.alloc (.cells #[.int .u8 c] 5)) = .ok (.string ⟨#[UInt8.ofNat c.toNat]⟩) (w.alloc (.cells #[.int .u8 c] 5)) :=
  conv_box (Box.new w 5 #[.int .u8 c])

/-- .. behind a draw. -/
theorem conv_one_drew (w : World) (c : Int) : (convert 74 9 (.slice (some ⟨w.heap.size, 0, none⟩) 1 1)).run Tryd.prog (w.alloc (.cells #[.int .u8 c] 5)).drew = .ok (.string ⟨#[UInt8.ofNat c.toNat]⟩) (w.alloc (.cells #[.int .u8 c] 5)).drew :=
  conv_box (W := (w.alloc (.cells #[.int .u8 c] 5)).drew) (Box.new w 5 #[.int .u8 c])

set_option maxRecDepth 100000 in
theorem num_small (n : Nat) (w : World) (h : n < 10) :
    Calls Tryd.prog 34 #[.int .i64 (n : Nat)] w fun e w' => e = .returned (.string ⟨(decL n).toArray⟩) ∧ Below w.heap.size w w' := by
  have hcv := conv_one
  go_enter Tryd.func34, Tryd.ntmps34
  go_wp2_with fail
  go_ret
  exact ⟨by rw [decL_small n h]; simp, (Below.refl _ w).alloc (Nat.le_refl _) _⟩

/-- What one step of the model's numeral comes to. -/
theorem dec_join (n : Nat) (h : 10 ≤ n) : (⟨(decL (n / 10)).toArray⟩ : ByteArray) ++ ⟨#[UInt8.ofNat (48 + n % 10)]⟩ = ⟨(decL n).toArray⟩ := by
  rw [decL_step n h]
  apply ByteArray.ext
  simp

set_option maxRecDepth 100000 in
set_option maxHeartbeats 1600000 in
theorem num_step (n : Nat) (w : World) (h : 10 ≤ n) (hn : n < 10000)
    (ih : ∀ w : World, Calls Tryd.prog 34 #[.int .i64 ((n : Int) / 10)] w fun e w' => e = .returned (.string ⟨(decL (n / 10)).toArray⟩) ∧ Below w.heap.size w w') :
    Calls Tryd.prog 34 #[.int .i64 (n : Nat)] w fun e w' => e = .returned (.string ⟨(decL n).toArray⟩) ∧ Below w.heap.size w w' := by
  have hcv := conv_one
  have hcv2 := conv_one_drew
  have IH := Lib.hid ih; clear ih
  obtain ⟨r, hr⟩ : ∃ r, r = n % 10 := ⟨_, rfl⟩
  have hr10 : r < 10 := by omega
  have et : ((n : Int)).tmod 10 = (r : Int) := by rw [Int.tmod_eq_emod_of_nonneg (by omega)]; omega
  have eq : IntKind.i64.wrap ((n : Int) / 10) = (n : Int) / 10 := IntWalk.i64_in _ (by omega)
  have ew : IntKind.i64.wrap (48 + (r : Int)) = 48 + (r : Int) := IntWalk.i64_in _ (by omega)
  have eu : IntKind.u8.wrap (48 + (r : Int)) = 48 + (r : Int) := IntWalk.u8_in _ (by omega)
  have Hr := Lib.hid hr; clear hr
  have hdl : (decL (n / 10)).length ≤ 5 := decL_len _ (by omega)
  go_enter Tryd.func34, Tryd.ntmps34
  go_wp2_with fail
  go_region_with (go_at_call 34; refine (IH.out _).mono ?_; rintro e w1 ⟨rfl, hb1⟩; try (have hcv1 := conv_box (built_drew hb1)))
  all_goals clear et eq ew eu hcv hcv2
  all_goals go_wp2_with fail
  all_goals go_ret
  all_goals (refine ⟨(?_ : Ending.returned (Value.string ((⟨(decL (n / 10)).toArray⟩ : ByteArray) ++ ⟨#[48 + UInt8.ofNat r]⟩)) = _), ?_⟩; · rw [← dec_join n h, ← Hr.out]; simp)
  all_goals first
    | exact Below.alloc (a := w) (below_of_drew hb1) (by have := hb1.size; exact this) _
    | exact below_of_alloc_drew hb1

theorem num_any (n : Nat) (hn : n < 10000) (w : World) : Calls Tryd.prog 34 #[.int .i64 (n : Nat)] w fun e w' => e = .returned (.string ⟨(decL n).toArray⟩) ∧ Below w.heap.size w w' := by
  induction n using Nat.strongRecOn generalizing w with
  | ind n ih =>
    by_cases h : n < 10
    · exact num_small n w h
    · exact num_step n w (by omega) hn fun w => ih (n / 10) (by omega) (by omega) w

end Go.Proofs.YtbcckgofoknmbaaDoor
/-
  The model's decimal text of a natural number.
-/
namespace Go.Proofs.YtbcckgofoknmbaaDoor
open Go.RowKit Num

theorem decL_step4 (q d : Nat) (hq : 0 < q) (hd : d < 10000) : decL (10000 * q + d) = decL q ++ [UInt8.ofNat (48 + d / 1000), UInt8.ofNat (48 + d / 100 % 10), UInt8.ofNat (48 + d / 10 % 10), UInt8.ofNat (48 + d % 10)] := by
  rw [decL_step (10000 * q + d) (by omega), decL_step ((10000 * q + d) / 10) (by omega), decL_step ((10000 * q + d) / 10 / 10) (by omega), decL_step ((10000 * q + d) / 10 / 10 / 10) (by omega)]
  rw [show (10000 * q + d) / 10 / 10 / 10 / 10 = q from by omega, show (10000 * q + d) / 10 / 10 / 10 % 10 = d / 1000 from by omega, show (10000 * q + d) / 10 / 10 % 10 = d / 100 % 10 from by omega,
    show (10000 * q + d) / 10 % 10 = d / 10 % 10 from by omega, show (10000 * q + d) % 10 = d % 10 from by omega]
  simp

/-- Zeros in front, up to four digits. -/
def pad4 (d : Nat) : List UInt8 := List.replicate (4 - (decL d).length) 48 ++ decL d

theorem pad4_eq (d : Nat) (hd : d < 10000) : pad4 d = [UInt8.ofNat (48 + d / 1000), UInt8.ofNat (48 + d / 100 % 10), UInt8.ofNat (48 + d / 10 % 10), UInt8.ofNat (48 + d % 10)] := by
  unfold pad4
  by_cases h1 : d < 10
  · rw [decL_small d h1, show d / 1000 = 0 from by omega, show d / 100 % 10 = 0 from by omega, show d / 10 % 10 = 0 from by omega, show d % 10 = d from by omega]
    rfl
  · by_cases h2 : d < 100
    · rw [decL_step d (by omega), decL_small (d / 10) (by omega), show d / 1000 = 0 from by omega, show d / 100 % 10 = 0 from by omega, show d / 10 % 10 = d / 10 from by omega]
      rfl
    · by_cases h3 : d < 1000
      · rw [decL_step d (by omega), decL_step (d / 10) (by omega), decL_small (d / 10 / 10) (by omega), show d / 1000 = 0 from by omega, show d / 100 % 10 = d / 10 / 10 from by omega]
        rfl
      · rw [decL_step d (by omega), decL_step (d / 10) (by omega), decL_step (d / 10 / 10) (by omega), decL_small (d / 10 / 10 / 10) (by omega), show d / 100 % 10 = d / 10 / 10 % 10 from by omega, show d / 1000 = d / 10 / 10 / 10 from by omega]
        rfl

theorem decL_pad (q d : Nat) (hq : 0 < q) (hd : d < 10000) : decL (10000 * q + d) = decL q ++ pad4 d := by
  rw [pad4_eq d hd, decL_step4 q d hq hd]

theorem decL_len4 (d : Nat) (hd : d < 10000) : 1 ≤ (decL d).length ∧ (decL d).length ≤ 4 := by
  have h := congrArg List.length (pad4_eq d hd)
  have h1 := decL_len d (by omega)
  unfold pad4 at h
  simp only [List.length_append, List.length_replicate, List.length_cons, List.length_nil] at h
  have h2 : 1 ≤ (decL d).length := by
    unfold decL
    split
    · simp
    · rw [List.length_map, List.length_reverse, length_digs, ln_pos 10 d (by omega) (by omega)]; omega
  omega

theorem decL_long (k n : Nat) (hk : n < 10000 ^ k) : (decL n).length ≤ 4 * k + 1 := by
  unfold decL
  split
  · simp
  · rw [List.length_map, List.length_reverse, length_digs]
    have : n < 10 ^ (4 * k) := by
      rw [Nat.pow_mul]; exact hk
    have := ln_le_of_lt 10 n (4 * k) (by omega) this
    omega

theorem top_dg (x k : Nat) (hk : ln 10000 x = k + 1) : dg 10000 x k = x / 10000 ^ k := by
  rw [dg_eq 10000 (by omega)]
  apply Nat.mod_eq_of_lt
  have := lt_pow_ln 10000 x (by omega)
  rw [hk, Nat.pow_succ] at this
  exact Nat.div_lt_of_lt_mul this

theorem div_top_pos (x k : Nat) (hk : k < ln 10000 x) : 0 < x / 10000 ^ k :=
  Nat.div_pos (top_le 10000 x k (by omega) hk) (Nat.pow_pos (by omega))

theorem div_next (x k : Nat) : x / 10000 ^ k = 10000 * (x / 10000 ^ (k + 1)) + dg 10000 x k := by
  rw [dg_eq 10000 (by omega), Nat.pow_succ, ← Nat.div_div_eq_div_mul]
  omega

theorem text_join (q d : Nat) (hq : 0 < q) (hd : d < 10000) : (⟨(decL q).toArray⟩ : ByteArray) ++ ((⟨#[48, 48, 48, 48]⟩ : ByteArray).extract (decL d).length 4 ++ ⟨(decL d).toArray⟩) = ⟨(decL (10000 * q + d)).toArray⟩ := by
  rw [decL_pad q d hq hd]
  apply ByteArray.ext
  have hl := decL_len4 d hd
  have e : ((⟨#[48, 48, 48, 48]⟩ : ByteArray).extract (decL d).length 4).data = (List.replicate (4 - (decL d).length) 48).toArray := by
    obtain ⟨h1, h2⟩ := hl
    generalize (decL d).length = L at *
    rcases (show L = 1 ∨ L = 2 ∨ L = 3 ∨ L = 4 from by omega) with rfl | rfl | rfl | rfl <;> rfl
  simp only [ByteArray.data_append, e, pad4]
  simp

set_option maxRecDepth 100000 in
set_option maxHeartbeats 1600000 in
theorem text_any (v : Value) (x : Nat) (w : World) (hv : Nums 3 .i64 10000 w v x) (hlx : ln 10000 x ≤ 1099511627776) :
    Calls Tryd.prog 21 #[v] w fun e w' => e = .returned (.string ⟨(decL x).toArray⟩) ∧ Below w.heap.size w w' := by
  obtain ⟨Aa, ca, rfl, hca, hca', hA⟩ := RowF.open hv
  clear hv
  have HA : Hid (RowA .i64 w Aa (ln 10000 x) (dg 10000 x)) := Lib.hid hA; clear hA
  obtain ⟨la, hla⟩ : ∃ la, la = ln 10000 x := ⟨_, rfl⟩
  rw [← hla] at HA hca hlx ⊢
  by_cases h0 : la = 0
  · have hx : x = 0 := (ln_eq_zero 10000 x (by omega)).1 (by omega)
    subst hx
    subst h0
    clear hla HA hlx
    go_enter Tryd.func21, Tryd.ntmps21
    go_wp2_with fail
    go_ret
    exact ⟨rfl, Below.refl _ _⟩
  · obtain ⟨k0, rfl⟩ : ∃ k0, la = k0 + 1 := ⟨la - 1, by omega⟩
    have hb0 : (((k0 + 1 : Nat) : Int) == 0) = false := by rw [beq_eq_false_iff_ne]; omega
    obtain ⟨ba, oa, rfl, hcA⟩ := HA.out.at_ (show k0 < k0 + 1 by omega)
    have hd0 := dg_lt 10000 x k0 (by omega)
    have htop := top_dg x k0 hla.symm
    have Htop := Lib.hid htop; clear htop
    have Hla := Lib.hid hla; clear hla
    clear h0
    go_enter Tryd.func21, Tryd.ntmps21
    go_wp2_with (go_at_call 34; refine (num_any _ hd0 _).mono ?_; rintro e w1 ⟨rfl, hb1⟩)
    have hs0 := hb1.size
    go_loopw [3, 4] (fun sv i wr => ∃ k : Nat, k ≤ k0 ∧ sv = .string ⟨(decL (x / 10000 ^ k)).toArray⟩ ∧ i = .int .i64 ((k : Int) - 1) ∧ Below w.heap.size w wr) (fun _ i _ => ((intOf i) + 1).toNat)
    case atStart => exact ⟨k0, by omega, by rw [Htop.out], by go_num, hb1⟩
    case round =>
      clear hb1 hs0
      obtain ⟨k, hk, rfl, rfl, hbel⟩ := hrel
      by_cases hk0 : 1 ≤ k
      · obtain ⟨q, rfl⟩ : ∃ q, k = q + 1 := ⟨k - 1, by omega⟩
        obtain ⟨_, _, hAe, hcQ⟩ := (HA.out.below hbel (Nat.le_refl _)).at_ (show q < k0 + 1 by omega)
        obtain ⟨rfl, rfl⟩ : ba = _ ∧ oa = _ := by injection hAe with hAe; injection hAe with h1 h2; exact ⟨h1, h2⟩
        clear hAe
        have hdq := dg_lt 10000 x q (by omega)
        have hnext := div_next x q
        have Hnext := Lib.hid hnext; clear hnext
        have hpos := div_top_pos x (q + 1) (by rw [← Hla.out]; omega)
        obtain ⟨D, hD⟩ : ∃ D, D = dg 10000 x q := ⟨_, rfl⟩
        rw [← hD] at hcQ hdq Hnext
        have HD := Lib.hid hD; clear hD
        obtain ⟨X, hX⟩ : ∃ X, X = x / 10000 ^ (q + 1) := ⟨_, rfl⟩
        rw [← hX] at hpos Hnext ⊢
        have hXl : (decL X).length ≤ 4398046511105 := by
          have h1 := decL_long _ X (lt_pow_ln 10000 X (by omega))
          have h2 : ln 10000 X ≤ ln 10000 x := ln_mono _ _ _ (by omega) (by rw [hX]; exact Nat.div_le_self _ _)
          rw [← Hla.out] at h2
          omega
        have HX := Lib.hid hX; clear hX
        have hl4 := decL_len4 D hdq
        obtain ⟨hl4a, hl4b⟩ := hl4
        go_wp2_with (go_at_call 34; refine (num_any _ hdq _).mono ?_; rintro e w1 ⟨rfl, hb1⟩)
        go_roundw
        case rel => exact ⟨q, by omega, by rw [Hnext.out]; exact congrArg Value.string (text_join X D hpos hdq), by go_num, hbel.trans (hb1.mono hbel.size)⟩
        case measure => simp [intOf]
      · obtain rfl : k = 0 := by omega
        go_wp2_with fail
        go_ret
        exact ⟨by simp, hbel⟩

end Go.Proofs.YtbcckgofoknmbaaDoor
/-
  The model's conversion of an int to a rational number.
-/
namespace Go.Proofs.YtbcckgofoknmbaaDoor
open Go.RowKit Num

theorem low_cons {n r : Nat} {pre : List Nat} (h : digs 10000 n = pre ++ digs 10000 r) (h0 : 0 < r) : digs 10000 n = (pre ++ [r % 10000]) ++ digs 10000 (r / 10000) := by
  rw [h, List.append_assoc, digs_pos 10000 r (by omega) h0]; rfl

theorem pre_len {n r : Nat} {pre : List Nat} (h : digs 10000 n = pre ++ digs 10000 r) (hn : n ≤ 9223372036854775808) : pre.length ≤ 5 := by
  have h1 : ln 10000 n ≤ 5 := ln_le_of_lt _ _ _ (by omega) (by omega)
  have h2 : ln 10000 n = pre.length + ln 10000 r := by rw [ln, h, List.length_append]; rfl
  omega

theorem box_of_below {B : Nat} {w0 wr : World} {t : TypeId} {cs : Array Value} (h : Box w0 B t cs) (hb : Below (B + 1) w0 wr) : Box wr B t cs := h.below hb (by omega)

end Go.Proofs.YtbcckgofoknmbaaDoor
/-
  The model's rational number as a Rat: lowest terms, two numerals, the limit.
-/
namespace Go.Proofs.YtbcckgofoknmbaaDoor
open Go.RowKit Num

/-- The numeral of n. -/
def dec (n : Nat) : ByteArray := ⟨(decL n).toArray⟩

theorem dec_size (n : Nat) : (dec n).size = (decL n).length := by simp [dec, ByteArray.size]

/-- No Rat, false. -/
def noRat : Value := .tuple #[.agg #[.bool false, .string ⟨#[]⟩, .string ⟨#[]⟩], .bool false]
/-- The Rat and true. -/
def okRat (neg : Bool) (n d : Nat) : Value := .tuple #[.agg #[.bool neg, .string (dec n), .string (dec d)], .bool true]
/-- Both numerals meet the limit. -/
def fits (n d : Nat) : Bool := decide ((decL n).length ≤ 120) && decide ((decL d).length ≤ 120)
/-- What a fraction in lowest terms is handed back as. -/
def ratRes (neg : Bool) (n d : Nat) : Value := if fits n d = true then okRat neg n d else noRat

theorem text_dec (v : Value) (x : Nat) (w : World) (hv : Nums 3 .i64 10000 w v x) (hlx : ln 10000 x ≤ 1099511627776) :
    Calls Tryd.prog 21 #[v] w fun e w' => e = .returned (.string (dec x)) ∧ Below w.heap.size w w' := text_any v x w hv hlx

theorem lowest_as (neg : Bool) (vn vd : Value) (n d : Nat) (sg : Bool) (N D : Nat) (w : World) (hn : Nums 3 .i64 10000 w vn n) (hd : Nums 3 .i64 10000 w vd d) (h0 : 0 < d) (hln : ln 10000 n ≤ 549755813888) (hld : ln 10000 d ≤ 549755813888) (hsg : sg = (neg && decide (0 < n))) (hN : N = n / Nat.gcd n d) (hD : D = d / Nat.gcd n d) :
    Calls Tryd.prog 20 #[.agg #[.bool neg, vn, vd]] w fun e w' => (∃ v, e = .returned v ∧ IsQ w' v sg N D) ∧ Below w.heap.size w w' := by
  subst hsg hN hD
  exact lowest_any neg vn vd n d w hn hd h0 hln hld

/-- The cells of one struct, and that nothing older has turned: what the region of the two texts holds on to. -/
theorem hold3 {W w' : World} {G : Nat} {t : TypeId} {a b c : Value} (h : Box W G t #[a, b, c]) (hb : Below W.heap.size W w') : w'.cell? ⟨G, 0, none⟩ = some a ∧ w'.cell? ⟨G, 1, none⟩ = some b ∧ w'.cell? ⟨G, 2, none⟩ = some c ∧ Below W.heap.size W w' := by
  obtain ⟨h1, h2, h3, _⟩ := (h.below hb h.lt).three
  exact ⟨h1, h2, h3, hb⟩

theorem hold3_below {W w' : World} {a b c : Prop} (h : a ∧ b ∧ c ∧ Below W.heap.size W w') : Below W.heap.size W w' := h.2.2.2
theorem below_step {W w1 w2 : World} (h : Below W.heap.size W w1) (k : Below w1.heap.size w1 w2) : Below W.heap.size W w2 := h.trans (k.mono h.size)
theorem new_kept {w w1 : World} {t : TypeId} {cs : Array Value} (hb : Below (w.alloc (.cells cs t)).heap.size (w.alloc (.cells cs t)) w1) : Box w1 w.heap.size t cs :=
  Box.below (Box.new w t cs) hb (by simp)
theorem below_realloc {W w1 : World} {o : Obj} (o' : Obj) (h : Below W.heap.size W (w1.alloc o)) (hs : W.heap.size ≤ w1.heap.size) : Below W.heap.size W (w1.alloc o') :=
  ⟨h.os, h.tape, h.output, by have := h.size; simp at this ⊢; omega, fun k hk => by
    have h1 := h.block k hk
    rw [Below.heap_alloc w1 o k (by omega)] at h1
    rw [Below.heap_alloc w1 o' k (by omega)]
    exact h1⟩
theorem below_put {W w1 : World} (h : Below W.heap.size W w1) {g : Nat} (hg : W.heap.size ≤ g) (x y z : Value) : Below W.heap.size W (((w1.setCell ⟨g, 0, none⟩ x).setCell ⟨g, 1, none⟩ y).setCell ⟨g, 2, none⟩ z) := below_put3 h hg x y z
theorem below_new {W w1 : World} (h : Below W.heap.size W w1) (o : Obj) : Below W.heap.size W (w1.alloc o) := h.alloc h.size o

set_option maxRecDepth 100000 in
set_option maxHeartbeats 1600000 in
theorem rat_low (neg : Bool) (vn vd : Value) (n d : Nat) (sg : Bool) (N D : Nat) (w : World) (hn : Nums 3 .i64 10000 w vn n) (hd : Nums 3 .i64 10000 w vd d) (h0 : 0 < d) (hln : ln 10000 n ≤ 549755813888) (hld : ln 10000 d ≤ 549755813888) (hsg : sg = (neg && decide (0 < n))) (hN : N = n / Nat.gcd n d) (hD : D = d / Nat.gcd n d) :
    Calls Tryd.prog 10 #[.agg #[.bool neg, vn, vd]] w fun e w' => e = .returned (ratRes sg N D) ∧ Below w.heap.size w w' := by
  have Hn := Lib.hid hn; clear hn
  have Hd := Lib.hid hd; clear hd
  have hlN : ln 10000 N ≤ 1099511627776 := Nat.le_trans (ln_mono _ _ _ (by omega) (by rw [hN]; exact Nat.div_le_self _ _)) (by omega)
  have hlD : ln 10000 D ≤ 1099511627776 := Nat.le_trans (ln_mono _ _ _ (by omega) (by rw [hD]; exact Nat.div_le_self _ _)) (by omega)
  have Hsg := Lib.hid hsg; clear hsg
  have HN := Lib.hid hN; clear hN
  have HD := Lib.hid hD; clear hD
  have hR0 := Box.new (w.alloc (.cells #[.bool neg, vn, vd] 36)) 25 #[.bool false, .string ⟨#[]⟩, .string ⟨#[]⟩]
  rw [show (w.alloc (.cells #[.bool neg, vn, vd] 36)).heap.size = w.heap.size + 1 from by simp] at hR0
  go_enter Tryd.func10, Tryd.ntmps10
  go_wp2_with (go_at_call 20; refine (lowest_as neg vn vd n d sg N D _ (Hn.out.below (((Below.refl _ w).alloc (Nat.le_refl _) _).alloc (by simp) _) (Nat.le_refl _)) (Hd.out.below (((Below.refl _ w).alloc (Nat.le_refl _) _).alloc (by simp) _) (Nat.le_refl _)) h0 hln hld Hsg.out HN.out HD.out).mono ?_; rintro e w1 ⟨⟨v, rfl, vn1, vd1, rfl, hn1, hd1⟩, hb1⟩; have hx1 := hR0.below hb1 (by simp <;> omega); have hz1 := two_size hb1; have hb2 := (((Below.refl _ w).alloc (Nat.le_refl _) _).alloc (by simp) _).trans (hb1.mono (by simp <;> omega)); obtain ⟨An, cn, rfl, _, _, _⟩ := RowF.open hn1; obtain ⟨Ad, cd, rfl, _, _, _⟩ := RowF.open hd1)
  have hG := Box.new w1 36 #[.bool sg, .slice An (ln 10000 N) cn, .slice Ad (ln 10000 D) cd]
  have hbW := (Below.refl w1.heap.size w1).alloc (Nat.le_refl _) (.cells #[.bool sg, .slice An (ln 10000 N) cn, .slice Ad (ln 10000 D) cd] 36)
  have hnW := hn1.below hbW (Nat.le_refl _)
  have hdW := hd1.below hbW (Nat.le_refl _)
  have hxW := hx1.below hbW hx1.lt
  have hb3 := hb2.trans (hbW.mono (by omega))
  obtain ⟨G, hGe⟩ : ∃ G, G = w1.heap.size := ⟨_, rfl⟩
  rw [← hGe] at hG ⊢
  have hgG : w.heap.size + 2 ≤ G := by omega
  obtain ⟨W, hW⟩ : ∃ W, W = w1.alloc (.cells #[.bool sg, .slice An (ln 10000 N) cn, .slice Ad (ln 10000 D) cd] 36) := ⟨_, rfl⟩
  rw [← hW] at hG hnW hdW hxW hb3 ⊢
  clear hW hbW hn1 hd1 hx1 hb1 hb2 hR0 hGe hz1
  have hGW := hG.lt
  go_cut [5] (fun s5 wx => ∃ H : Nat, s5 = .pointer (some ⟨H, 0, none⟩) ∧ W.heap.size ≤ H ∧ Below W.heap.size W wx ∧ Box wx H 25 #[.bool sg, .string (dec N), .string (dec D)])
  case first =>
    go_region_held3 (fun w' => w'.cell? ⟨G, 0, none⟩ = some (.bool sg) ∧ w'.cell? ⟨G, 1, none⟩ = some (.slice An (ln 10000 N) cn) ∧ w'.cell? ⟨G, 2, none⟩ = some (.slice Ad (ln 10000 D) cd) ∧ Below W.heap.size W w')
      ((refine hold3 hG ?_; first | exact (Below.refl _ W).drew | (refine below_step (hold3_below (by assumption)) ?_; assumption) | (refine below_new (hold3_below (by assumption)) _) | (refine below_realloc _ (hold3_below (by assumption)) ?_; have h1 := hb1.size; have h2 := hb2.size; simp at h1 h2; omega) | (refine below_put (hold3_below (by assumption)) ?_ _ _ _; (try (have h1 := hb1.size; simp at h1)); (try (have h2 := hb2.size; simp at h2)); omega)))
      (first
        | (go_at_call_of 21 (Value.slice An (ln 10000 N) cn); refine (text_dec _ N _ (hnW.below (hold3_below (by assumption)) (Nat.le_refl _)) hlN).mono ?_; rintro e w1 ⟨rfl, hb1⟩; (first | (have hz1 := built_drew hb1) | (have hz1 := new_kept hb1) | (have hz1 := hz2.below hb1 hz2.lt) | skip); (try obtain ⟨z10, z11, z12, y10, y11, y12⟩ := hz1.three))
        | (go_at_call_of 21 (Value.slice Ad (ln 10000 D) cd); refine (text_dec _ D _ (hdW.below (hold3_below (by assumption)) (Nat.le_refl _)) hlD).mono ?_; rintro e w2 ⟨rfl, hb2⟩; (first | (have hz2 := built_drew hb2) | (have hz2 := new_kept hb2) | (have hz2 := hz1.below hb2 hz1.lt) | skip); (try obtain ⟨z20, z21, z22, y20, y21, y22⟩ := hz2.three)))
    all_goals go_wp2_with fail
    all_goals go_meet
    all_goals refine ⟨_, rfl, ?_, hold3_below (by assumption), ?_⟩
    all_goals first
      | exact Nat.le_refl _
      | exact hb1.size
      | exact hb2.size
      | exact Nat.le_trans hb1.size hb2.size
      | exact Nat.le_trans hb2.size hb1.size
      | exact Box.new _ _ _
      | exact (((hz2.set 0 _).set 1 _).set 2 _)
      | exact (((hz1.set 0 _).set 1 _).set 2 _)
  case rest =>
    obtain ⟨H, rfl, hH, hbc, hbox⟩ := hcut
    obtain ⟨c0, c1, c2, _, _, _⟩ := hbox.three
    have hxc := hxW.below hbc hxW.lt
    obtain ⟨r0, r1, r2, f0, f1, f2⟩ := hxc.three
    by_cases h1 : (dec N).size ≤ 120
    · by_cases h2 : (dec D).size ≤ 120
      · go_wp2_with fail
        obtain ⟨k0, k1, k2⟩ := hxc.put3 (.bool sg) (.string (dec N)) (.string (dec D))
        refine bodyPost_ret (v := okRat sg N D) (by simp [results, Tryd.results10, go_sem, k0, k1, k2, okRat]) rfl ?_
        exact ⟨by rw [ratRes, if_pos (by have e1 := dec_size N; have e2 := dec_size D; simp [fits]; omega)], below_put3 (hb3.trans (hbc.mono hb3.size)) (by omega) _ _ _⟩
      · go_wp2_with fail
        obtain ⟨k0, k1, k2⟩ := hxc.put3 (.bool false) (.string ⟨#[]⟩) (.string ⟨#[]⟩)
        refine bodyPost_ret (v := noRat) (by simp [results, Tryd.results10, go_sem, k0, k1, k2, noRat]) rfl ?_
        exact ⟨by rw [ratRes, if_neg (by have e1 := dec_size N; have e2 := dec_size D; simp [fits]; omega)], below_put3 (hb3.trans (hbc.mono hb3.size)) (by omega) _ _ _⟩
    · go_wp2_with fail
      obtain ⟨k0, k1, k2⟩ := hxc.put3 (.bool false) (.string ⟨#[]⟩) (.string ⟨#[]⟩)
      refine bodyPost_ret (v := noRat) (by simp [results, Tryd.results10, go_sem, k0, k1, k2, noRat]) rfl ?_
      exact ⟨by rw [ratRes, if_neg (by have e1 := dec_size N; have e2 := dec_size D; simp [fits]; omega)], below_put3 (hb3.trans (hbc.mono hb3.size)) (by omega) _ _ _⟩

end Go.Proofs.YtbcckgofoknmbaaDoor
/-
  The model's RatOf.
-/
namespace Go.Proofs.YtbcckgofoknmbaaDoor
open Go.RowKit Num

theorem ln_int19 (n : Nat) (h : n ≤ 9223372036854775808) : ln 10000 n ≤ 549755813888 := Nat.le_trans (ln_le_of_lt 10000 n 5 (by omega) (by omega)) (by omega)

/-- What RatOf answers. -/
def ratOf (num den : Int) : Value :=
  ratRes ((decide (num < 0) != decide (den < 0)) && decide (0 < num.natAbs)) (num.natAbs / Nat.gcd num.natAbs den.natAbs) (den.natAbs / Nat.gcd num.natAbs den.natAbs)

theorem ratRes_shape (sg : Bool) (N D : Nat) : ∃ b x y c, ratRes sg N D = .tuple #[.agg #[.bool b, .string x, .string y], .bool c] := by
  unfold ratRes
  split
  · exact ⟨_, _, _, _, rfl⟩
  · exact ⟨_, _, _, _, rfl⟩

end Go.Proofs.YtbcckgofoknmbaaDoor
