/-
  The model's conversion of an int to a rational number.
-/
import Derived.Test.YtdjldhkmcmbiiaaDoorTexts
namespace Go.Proofs.YtdjldhkmcmbiiaaDoor
open Go.RowKit Num

set_option maxHeartbeats 400000 in
theorem one_any (w : World) : Calls Tryd.prog 59 #[] w fun e w' => (∃ v, e = .returned v ∧ Nums 3 .i64 10000 w' v 1) ∧ Below w.heap.size w w' := by
  go_enter Tryd.func59, Tryd.ntmps59
  go_wp2_with fail
  go_ret
  refine ⟨⟨_, rfl, .inr ⟨w.heap.size, 0, 1, by rw [ln_one 10000 (by omega)]; rfl, by rw [ln_one 10000 (by omega)]; omega, by unfold maxLen; omega, ⟨_, Box.new w _ _⟩, fun j hj => ?_⟩⟩, (Below.refl _ w).alloc (Nat.le_refl _) _⟩
  rw [ln_one 10000 (by omega)] at hj
  obtain rfl : j = 0 := by omega
  rw [digs_small 10000 1 (by omega) (by omega) (by omega)]
  exact (Box.new w 3 #[.int .i64 1]).cell 0

theorem low_cons {n r : Nat} {pre : List Nat} (h : digs 10000 n = pre ++ digs 10000 r) (h0 : 0 < r) : digs 10000 n = (pre ++ [r % 10000]) ++ digs 10000 (r / 10000) := by
  rw [h, List.append_assoc, digs_pos 10000 r (by omega) h0]; rfl

theorem pre_len {n r : Nat} {pre : List Nat} (h : digs 10000 n = pre ++ digs 10000 r) (hn : n ≤ 9223372036854775808) : pre.length ≤ 5 := by
  have h1 : ln 10000 n ≤ 5 := ln_le_of_lt _ _ _ (by omega) (by omega)
  have h2 : ln 10000 n = pre.length + ln 10000 r := by rw [ln, h, List.length_append]; rfl
  omega

theorem box_of_below {B : Nat} {w0 wr : World} {t : TypeId} {cs : Array Value} (h : Box w0 B t cs) (hb : Below (B + 1) w0 wr) : Box wr B t cs := h.below hb (by omega)

set_option maxRecDepth 100000 in
set_option maxHeartbeats 1600000 in
theorem intQ_pos (n : Nat) (w : World) (hn : n < 9223372036854775808) :
    Calls Tryd.prog 41 #[.int .i64 (n : Nat)] w fun e w' => (∃ v, e = .returned v ∧ IsQ w' v false n 1) ∧ Below w.heap.size w w' := by
  obtain ⟨i0, hi, hz0, hz1, hz2⟩ := info_parts Tryd.info_int
  have Hn := Lib.hid hn; clear hn
  have hR0 := Box.new w 53 #[.bool false, .slice none 0 0, .slice none 0 0]
  have hb0 : Below w.heap.size w (w.alloc (.cells #[.bool false, .slice none 0 0, .slice none 0 0] 53)) := (Below.refl _ w).alloc (Nat.le_refl _) _
  have hneg : decide ((n : Int) < 0) = false := by simp
  go_enter Tryd.func41, Tryd.ntmps41
  go_wp2_with fail
  go_loopw [0, 3] (fun t v wr => ∃ (r : Nat) (pre : List Nat), t = .int .i64 (r : Nat) ∧ digs 10000 n = pre ++ digs 10000 r ∧ r < 9223372036854775808 ∧ wr.ownsRow (w.heap.size + 1) 3 1 v pre.length (pre.map fun x => .int .i64 (x : Nat)) ∧ Below w.heap.size w wr ∧ Box wr w.heap.size 53 #[.bool false, .slice none 0 0, .slice none 0 0] ∧ w.heap.size + 1 ≤ wr.heap.size) (fun t _ _ => (intOf t).toNat)
  case atStart => exact ⟨n, [], rfl, rfl, Hn.out, World.ownsRow_nil _ _ _ _, hb0, hR0, by simp⟩
  case round =>
    clear hR0 hb0
    obtain ⟨r, pre, rfl, hpre, hr, hown, hbel, hbox, hsz⟩ := hrel
    have hlen : pre.length ≤ 5 := pre_len hpre (by have := Hn.out; omega)
    have Hpre := Lib.hid hpre; clear hpre
    obtain ⟨r0, r1, r2, f0, f1, f2⟩ := hbox.three
    by_cases h0 : 0 < r
    · have hne : ((r : Int) != 0) = true := by rw [bne_iff_ne]; omega
      clear r0 r1 r2 f0 f1 f2
      go_wp2_with (at_builtin; refine wpList_append_own _ rfl _ _ 51 rfl (w.heap.size + 1) 3 i0 (.int .i64 0) 1 8 Tryd.underlying51 hi hz0 hz1 hz2 rfl (by decide) _ _ _ rfl (hown.alloc _) ⟨wr.heap.size, 0, none⟩ 1 1 [.int .i64 ((r : Int) % 10000)] rfl rfl (cell_one_new _ _ _) (one_int _ _) (by unfold maxLen; omega) (by omega) (by simp; omega) ?_; intro v' w1 hown' hgrow _)
      have hb1 := below_grown_own hbel (by omega) (by omega) hown hgrow
      have hx1 : Box w1 w.heap.size 53 #[.bool false, .slice none 0 0, .slice none 0 0] := (hbox.alloc _).below (B := w.heap.size + 1) (((Below.refl _ _).grown hgrow (by simp; omega) (fun k hk => (hown.lt k hk).1))) (by omega)
      have hs1 : w.heap.size + 1 ≤ w1.heap.size := by have := hgrow.size; simp at this; omega
      have ho1 := own_snoc (y := r % 10000) (by omega) hown'
      clear hown' hgrow hown hbel hbox
      go_roundw
      case rel => exact ⟨r / 10000, pre ++ [r % 10000], by go_num, by rw [Hpre.out, List.append_assoc]; rw [digs_pos 10000 r (by omega) h0]; rfl, by omega, ho1, hb1, hx1, hs1⟩
      case measure => simp [intOf]; omega
    · obtain rfl : r = 0 := by omega
      have e : pre = digs 10000 n := by rw [Hpre.out]; simp [digs_zero]
      have hq := rowF_own pre rfl hown
      rw [e] at hq
      have hq' : Nums 3 .i64 10000 wr u3 n := hq
      obtain ⟨A3, c3, rfl, _, _, _⟩ := RowF.open hq'
      clear hq hown e
      go_wp2_with (go_at_call 59; refine (one_any _).mono ?_; rintro e w1 ⟨⟨v1, rfl, hv1⟩, hb1⟩; have hx1 := hbox.below hb1 (by omega); obtain ⟨r0, r1, r2, f0, f1, f2⟩ := hx1.three; obtain ⟨A1, c1, rfl, _, _, _⟩ := RowF.open hv1)
      obtain ⟨k0, k1, k2⟩ := hx1.put3 (.bool false) (.slice A3 (ln 10000 n) c3) (.slice A1 (ln 10000 1) c1)
      refine bodyPost_ret (v := .agg #[.bool false, .slice A3 (ln 10000 n) c3, .slice A1 (ln 10000 1) c1]) (by simp [results, Tryd.results41, go_sem, k0, k1, k2]) rfl ?_
      exact ⟨⟨_, rfl, _, _, rfl, (hq'.below hb1 (Nat.le_refl _)).put3 hx1 (by decide) _ _ _, hv1.put3 hx1 (by decide) _ _ _⟩, below_put3 (hbel.trans (hb1.mono (by omega))) (Nat.le_refl _) _ _ _⟩

set_option maxRecDepth 100000 in
set_option maxHeartbeats 1600000 in
theorem intQ_neg (n : Nat) (w : World) (h1n : 0 < n) (hn : n ≤ 9223372036854775808) :
    Calls Tryd.prog 41 #[.int .i64 (-(n : Nat))] w fun e w' => (∃ v, e = .returned v ∧ IsQ w' v true n 1) ∧ Below w.heap.size w w' := by
  obtain ⟨i0, hi, hz0, hz1, hz2⟩ := info_parts Tryd.info_int
  have Hn := Lib.hid hn; clear hn
  have hR0 := Box.new w 53 #[.bool false, .slice none 0 0, .slice none 0 0]
  have hb0 : Below w.heap.size w (w.alloc (.cells #[.bool false, .slice none 0 0, .slice none 0 0] 53)) := (Below.refl _ w).alloc (Nat.le_refl _) _
  have hneg : decide (-(n : Int) < 0) = true := by simp; omega
  go_enter Tryd.func41, Tryd.ntmps41
  go_wp2_with fail
  go_loopw [0, 3] (fun t v wr => ∃ (r : Nat) (pre : List Nat), t = .int .i64 (-(r : Nat)) ∧ digs 10000 n = pre ++ digs 10000 r ∧ r ≤ 9223372036854775808 ∧ wr.ownsRow (w.heap.size + 1) 3 1 v pre.length (pre.map fun x => .int .i64 (x : Nat)) ∧ Below w.heap.size w wr ∧ Box wr w.heap.size 53 #[.bool false, .slice none 0 0, .slice none 0 0] ∧ w.heap.size + 1 ≤ wr.heap.size) (fun t _ _ => (-(intOf t)).toNat)
  case atStart => exact ⟨n, [], rfl, rfl, Hn.out, World.ownsRow_nil _ _ _ _, hb0, hR0, by simp⟩
  case round =>
    clear hR0 hb0
    obtain ⟨r, pre, rfl, hpre, hr, hown, hbel, hbox, hsz⟩ := hrel
    have hlen : pre.length ≤ 5 := pre_len hpre (by have := Hn.out; omega)
    have Hpre := Lib.hid hpre; clear hpre
    obtain ⟨r0, r1, r2, f0, f1, f2⟩ := hbox.three
    by_cases h0 : 0 < r
    · have hne : (-(r : Int) != 0) = true := by rw [bne_iff_ne]; omega
      clear r0 r1 r2 f0 f1 f2
      by_cases hD : 0 < (r : Int) % 10000
      · go_wp2_with (at_builtin; refine wpList_append_own _ rfl _ _ 51 rfl (w.heap.size + 1) 3 i0 (.int .i64 0) 1 8 Tryd.underlying51 hi hz0 hz1 hz2 rfl (by decide) _ _ _ rfl (hown.alloc _) ⟨wr.heap.size, 0, none⟩ 1 1 [.int .i64 ((r : Int) % 10000)] rfl rfl (cell_one_new _ _ _) (one_int _ _) (by unfold maxLen; omega) (by omega) (by simp; omega) ?_; intro v' w1 hown' hgrow _)
        have hb1 := below_grown_own hbel (by omega) (by omega) hown hgrow
        have hx1 : Box w1 w.heap.size 53 #[.bool false, .slice none 0 0, .slice none 0 0] := (hbox.alloc _).below (B := w.heap.size + 1) (((Below.refl _ _).grown hgrow (by simp; omega) (fun k hk => (hown.lt k hk).1))) (by omega)
        have hs1 : w.heap.size + 1 ≤ w1.heap.size := by have := hgrow.size; simp at this; omega
        have ho1 := own_snoc (y := r % 10000) (by omega) hown'
        clear hown' hgrow hown hbel hbox
        go_roundw
        case rel => exact ⟨r / 10000, pre ++ [r % 10000], by go_num, by rw [Hpre.out, List.append_assoc]; rw [digs_pos 10000 r (by omega) h0]; rfl, by omega, ho1, hb1, hx1, hs1⟩
        case measure => simp [intOf]; omega
      · go_wp2_with (at_builtin; refine wpList_append_own _ rfl _ _ 51 rfl (w.heap.size + 1) 3 i0 (.int .i64 0) 1 8 Tryd.underlying51 hi hz0 hz1 hz2 rfl (by decide) _ _ _ rfl (hown.alloc _) ⟨wr.heap.size, 0, none⟩ 1 1 [.int .i64 (-((r : Int) % 10000))] rfl rfl (cell_one_new _ _ _) (one_int _ _) (by unfold maxLen; omega) (by omega) (by simp; omega) ?_; intro v' w1 hown' hgrow _)
        have hb1 := below_grown_own hbel (by omega) (by omega) hown hgrow
        have hx1 : Box w1 w.heap.size 53 #[.bool false, .slice none 0 0, .slice none 0 0] := (hbox.alloc _).below (B := w.heap.size + 1) (((Below.refl _ _).grown hgrow (by simp; omega) (fun k hk => (hown.lt k hk).1))) (by omega)
        have hs1 : w.heap.size + 1 ≤ w1.heap.size := by have := hgrow.size; simp at this; omega
        have ho1 := own_snoc (y := r % 10000) (by omega) hown'
        clear hown' hgrow hown hbel hbox
        go_roundw
        case rel => exact ⟨r / 10000, pre ++ [r % 10000], by go_num, by rw [Hpre.out, List.append_assoc]; rw [digs_pos 10000 r (by omega) h0]; rfl, by omega, ho1, hb1, hx1, hs1⟩
        case measure => simp [intOf]; omega
    · obtain rfl : r = 0 := by omega
      have e : pre = digs 10000 n := by rw [Hpre.out]; simp [digs_zero]
      have hq := rowF_own pre rfl hown
      rw [e] at hq
      have hq' : Nums 3 .i64 10000 wr u3 n := hq
      obtain ⟨A3, c3, rfl, _, _, _⟩ := RowF.open hq'
      clear hq hown e
      go_wp2_with (go_at_call 59; refine (one_any _).mono ?_; rintro e w1 ⟨⟨v1, rfl, hv1⟩, hb1⟩; have hx1 := hbox.below hb1 (by omega); obtain ⟨r0, r1, r2, f0, f1, f2⟩ := hx1.three; obtain ⟨A1, c1, rfl, _, _, _⟩ := RowF.open hv1)
      obtain ⟨k0, k1, k2⟩ := hx1.put3 (.bool true) (.slice A3 (ln 10000 n) c3) (.slice A1 (ln 10000 1) c1)
      refine bodyPost_ret (v := .agg #[.bool true, .slice A3 (ln 10000 n) c3, .slice A1 (ln 10000 1) c1]) (by simp [results, Tryd.results41, go_sem, k0, k1, k2]) rfl ?_
      exact ⟨⟨_, rfl, _, _, rfl, (hq'.below hb1 (Nat.le_refl _)).put3 hx1 (by decide) _ _ _, hv1.put3 hx1 (by decide) _ _ _⟩, below_put3 (hbel.trans (hb1.mono (by omega))) (Nat.le_refl _) _ _ _⟩

end Go.Proofs.YtdjldhkmcmbiiaaDoor
