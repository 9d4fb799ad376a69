/-
  The model's drawing of a Rat and an int, of a text, of two ints. (Written by gen_drawc.py.)
-/
import Derived.Test.YtmmonglcbkefmaaGreatDoorDraws
import Derived.Test.YtmmonglcbkefmaaGreatDoorFmtP
namespace Go.Proofs.YtmmonglcbkefmaaGreatDoor
open Go.RowKit Num

abbrev powsA : Array Value := #[.int .i64 0, .int .i64 1, .int .i64 2, .int .i64 3, .int .i64 7, .int .i64 40, .int .i64 119, .int .i64 120, .int .i64 200, .int .i64 201, .int .i64 (-1)]
def powsF : Nat → Int
  | 0 => 0
  | 1 => 1
  | 2 => 2
  | 3 => 3
  | 4 => 7
  | 5 => 40
  | 6 => 119
  | 7 => 120
  | 8 => 200
  | 9 => 201
  | _ => -1
theorem powsA_at (j : Nat) (hj : j < 11) : powsA[j]? = some (.int .i64 (powsF j)) := by
  match j, hj with
  | 0, _ => rfl
  | 1, _ => rfl
  | 2, _ => rfl
  | 3, _ => rfl
  | 4, _ => rfl
  | 5, _ => rfl
  | 6, _ => rfl
  | 7, _ => rfl
  | 8, _ => rfl
  | 9, _ => rfl
  | 10, _ => rfl
theorem powsF_in (j : Nat) (hj : j < 11) : -1 ≤ powsF j ∧ powsF j ≤ 201 := by
  match j, hj with
  | 0, _ => exact ⟨by decide, by decide⟩
  | 1, _ => exact ⟨by decide, by decide⟩
  | 2, _ => exact ⟨by decide, by decide⟩
  | 3, _ => exact ⟨by decide, by decide⟩
  | 4, _ => exact ⟨by decide, by decide⟩
  | 5, _ => exact ⟨by decide, by decide⟩
  | 6, _ => exact ⟨by decide, by decide⟩
  | 7, _ => exact ⟨by decide, by decide⟩
  | 8, _ => exact ⟨by decide, by decide⟩
  | 9, _ => exact ⟨by decide, by decide⟩
  | 10, _ => exact ⟨by decide, by decide⟩

abbrev decsA : Array Value := #[.int .i64 0, .int .i64 1, .int .i64 3, .int .i64 8, .int .i64 50, .int .i64 51, .int .i64 (-1)]
def decsF : Nat → Int
  | 0 => 0
  | 1 => 1
  | 2 => 3
  | 3 => 8
  | 4 => 50
  | 5 => 51
  | _ => -1
theorem decsA_at (j : Nat) (hj : j < 7) : decsA[j]? = some (.int .i64 (decsF j)) := by
  match j, hj with
  | 0, _ => rfl
  | 1, _ => rfl
  | 2, _ => rfl
  | 3, _ => rfl
  | 4, _ => rfl
  | 5, _ => rfl
  | 6, _ => rfl
theorem decsF_in (j : Nat) (hj : j < 7) : -1 ≤ decsF j ∧ decsF j ≤ 51 := by
  match j, hj with
  | 0, _ => exact ⟨by decide, by decide⟩
  | 1, _ => exact ⟨by decide, by decide⟩
  | 2, _ => exact ⟨by decide, by decide⟩
  | 3, _ => exact ⟨by decide, by decide⟩
  | 4, _ => exact ⟨by decide, by decide⟩
  | 5, _ => exact ⟨by decide, by decide⟩
  | 6, _ => exact ⟨by decide, by decide⟩

abbrev numsA : Array Value := #[.int .i64 (-9223372036854775808), .int .i64 9223372036854775807, .int .i64 0]
def numsF : Nat → Int
  | 0 => -9223372036854775808
  | 1 => 9223372036854775807
  | _ => 0
theorem numsA_at (j : Nat) (hj : j < 3) : numsA[j]? = some (.int .i64 (numsF j)) := by
  match j, hj with
  | 0, _ => rfl
  | 1, _ => rfl
  | 2, _ => rfl
theorem numsF_in (j : Nat) (hj : j < 3) : -9223372036854775808 ≤ numsF j ∧ numsF j ≤ 9223372036854775807 := by
  match j, hj with
  | 0, _ => exact ⟨by decide, by decide⟩
  | 1, _ => exact ⟨by decide, by decide⟩
  | 2, _ => exact ⟨by decide, by decide⟩

abbrev densA : Array Value := #[.int .i64 (-9223372036854775808), .int .i64 1, .int .i64 (-1), .int .i64 0]
def densF : Nat → Int
  | 0 => -9223372036854775808
  | 1 => 1
  | 2 => -1
  | _ => 0
theorem densA_at (j : Nat) (hj : j < 4) : densA[j]? = some (.int .i64 (densF j)) := by
  match j, hj with
  | 0, _ => rfl
  | 1, _ => rfl
  | 2, _ => rfl
  | 3, _ => rfl
theorem densF_in (j : Nat) (hj : j < 4) : -9223372036854775808 ≤ densF j ∧ densF j ≤ 1 := by
  match j, hj with
  | 0, _ => exact ⟨by decide, by decide⟩
  | 1, _ => exact ⟨by decide, by decide⟩
  | 2, _ => exact ⟨by decide, by decide⟩
  | 3, _ => exact ⟨by decide, by decide⟩

set_option maxRecDepth 100000 in
set_option maxHeartbeats 1600000 in
theorem drawPow_any (A : Option Addr) (n c : Nat) (w : World) (hn : n ≤ 9223372036854775807) (hA : BytesAt w A n w.heap.size) :
    Calls Tryz.prog 20 #[.slice A n c] w fun e w' => (∃ b x y z, e = .returned (.tuple #[.agg #[.bool b, .string x, .string y], .int .i64 z]) ∧ x.size ≤ 130 ∧ y.size ≤ 130 ∧ -1 ≤ z ∧ z ≤ 201) ∧ Below w.heap.size w w' := by
  have e0 : ∀ (W : World) (o : Obj), (W.alloc o).heap.size = W.heap.size + 1 := fun W o => by simp
  have hB2 := (Below.refl w.heap.size w).alloc (Nat.le_refl _) (.cells noR 24)
  have hC := cur_new (c := c) hn hA hB2
  have hR := (Box.new w 24 noR).alloc (.cells #[.slice A n c, .int .i64 0, .int .u64 0] 56)
  have hB := hB2.alloc hB2.size (.cells #[.slice A n c, .int .i64 0, .int .u64 0] 56)
  rw [e0] at hC
  obtain ⟨W, hW⟩ : ∃ W, W = (w.alloc (.cells noR 24)).alloc (.cells #[.slice A n c, .int .i64 0, .int .u64 0] 56) := ⟨_, rfl⟩
  have hsz : W.heap.size = w.heap.size + 2 := by rw [hW, e0, e0]
  rw [← hW] at hC hR hB
  clear hB2 hA hn e0
  obtain ⟨g, hg⟩ : ∃ g, g = w.heap.size + 1 := ⟨_, rfl⟩
  rw [← hg] at hC
  go_enter Tryz.func20, Tryz.ntmps20
  go_upto_region 2 with fail
  rw [← hW, ← hg]
  clear hW
  have Hg := Lib.hid hg
  clear hg
  have hgw : w.heap.size + 1 = g := Hg.out.symm
  go_wp2_with (first
    | (go_at_call 40; refine (anyRat_any g 0 _ hC (by omega)).mono ?_; rintro e w1 ⟨⟨b1, x1, y1, rfl, k1, k2⟩, hc1, hb1⟩; replace hR := hR.but hb1 (by omega); have hal := (Below.refl w1.heap.size w1).alloc (Nat.le_refl _) (.cells powsA 3); have hg1 := hb1.size; have hc2 := hc1.step hal; have hb2 := hb1.step hal; replace hR := hR.below hal hR.lt; have hrow := row_new (g := g) (t := 3) hc1.lt powsA_at; clear hal hb1 hc1)
    | (go_at_call 60; refine (cur_among g (0 + 20) w1.heap.size 0 11 11 powsF _ hc2 (by omega) (by omega) (by omega) hrow).mono ?_; rintro e w2 ⟨⟨j, hj, rfl⟩, hc3, hb3⟩; replace hR := hR.but hb3 (by omega); have hb4 := hb2.trans hb3; obtain ⟨z0, z1, z2, f0, f1, f2⟩ := hR.three))
  obtain ⟨m0, m1, m2⟩ := hR.put3 (.bool b1) (.string x1) (.string y1)
  obtain ⟨j1, j2⟩ := powsF_in j hj
  have hB5 := below_put3 (hB.trans (hb4.below (B := w.heap.size) (by omega) (by omega))) (Nat.le_refl _) (.bool b1) (.string x1) (.string y1)
  exact bodyPost_ret (v := .tuple #[.agg #[.bool b1, .string x1, .string y1], .int .i64 (powsF j)]) (by simp [results, Tryz.results20, go_sem, m0, m1, m2]; done) rfl ⟨⟨_, _, _, _, rfl, by omega, by omega, j1, j2⟩, hB5⟩

set_option maxRecDepth 100000 in
set_option maxHeartbeats 1600000 in
theorem drawDec_any (A : Option Addr) (n c : Nat) (w : World) (hn : n ≤ 9223372036854775807) (hA : BytesAt w A n w.heap.size) :
    Calls Tryz.prog 28 #[.slice A n c] w fun e w' => (∃ b x y z, e = .returned (.tuple #[.agg #[.bool b, .string x, .string y], .int .i64 z]) ∧ x.size ≤ 130 ∧ y.size ≤ 130 ∧ -1 ≤ z ∧ z ≤ 51) ∧ Below w.heap.size w w' := by
  have e0 : ∀ (W : World) (o : Obj), (W.alloc o).heap.size = W.heap.size + 1 := fun W o => by simp
  have hB2 := (Below.refl w.heap.size w).alloc (Nat.le_refl _) (.cells noR 24)
  have hC := cur_new (c := c) hn hA hB2
  have hR := (Box.new w 24 noR).alloc (.cells #[.slice A n c, .int .i64 0, .int .u64 0] 56)
  have hB := hB2.alloc hB2.size (.cells #[.slice A n c, .int .i64 0, .int .u64 0] 56)
  rw [e0] at hC
  obtain ⟨W, hW⟩ : ∃ W, W = (w.alloc (.cells noR 24)).alloc (.cells #[.slice A n c, .int .i64 0, .int .u64 0] 56) := ⟨_, rfl⟩
  have hsz : W.heap.size = w.heap.size + 2 := by rw [hW, e0, e0]
  rw [← hW] at hC hR hB
  clear hB2 hA hn e0
  obtain ⟨g, hg⟩ : ∃ g, g = w.heap.size + 1 := ⟨_, rfl⟩
  rw [← hg] at hC
  go_enter Tryz.func28, Tryz.ntmps28
  go_upto_region 2 with fail
  rw [← hW, ← hg]
  clear hW
  have Hg := Lib.hid hg
  clear hg
  have hgw : w.heap.size + 1 = g := Hg.out.symm
  go_wp2_with (first
    | (go_at_call 40; refine (anyRat_any g 0 _ hC (by omega)).mono ?_; rintro e w1 ⟨⟨b1, x1, y1, rfl, k1, k2⟩, hc1, hb1⟩; replace hR := hR.but hb1 (by omega); have hal := (Below.refl w1.heap.size w1).alloc (Nat.le_refl _) (.cells decsA 3); have hg1 := hb1.size; have hc2 := hc1.step hal; have hb2 := hb1.step hal; replace hR := hR.below hal hR.lt; have hrow := row_new (g := g) (t := 3) hc1.lt decsA_at; clear hal hb1 hc1)
    | (go_at_call 60; refine (cur_among g (0 + 20) w1.heap.size 0 7 7 decsF _ hc2 (by omega) (by omega) (by omega) hrow).mono ?_; rintro e w2 ⟨⟨j, hj, rfl⟩, hc3, hb3⟩; replace hR := hR.but hb3 (by omega); have hb4 := hb2.trans hb3; obtain ⟨z0, z1, z2, f0, f1, f2⟩ := hR.three))
  obtain ⟨m0, m1, m2⟩ := hR.put3 (.bool b1) (.string x1) (.string y1)
  obtain ⟨j1, j2⟩ := decsF_in j hj
  have hB5 := below_put3 (hB.trans (hb4.below (B := w.heap.size) (by omega) (by omega))) (Nat.le_refl _) (.bool b1) (.string x1) (.string y1)
  exact bodyPost_ret (v := .tuple #[.agg #[.bool b1, .string x1, .string y1], .int .i64 (decsF j)]) (by simp [results, Tryz.results28, go_sem, m0, m1, m2]; done) rfl ⟨⟨_, _, _, _, rfl, by omega, by omega, j1, j2⟩, hB5⟩

set_option maxRecDepth 100000 in
set_option maxHeartbeats 1600000 in
theorem specFormat2_any (b : Bool) (x y : ByteArray) (w : World) (hx : x.size ≤ 200) (hy : y.size ≤ 200) :
    Calls Tryz.prog 64 #[.agg #[.bool b, .string x, .string y]] w fun e w' => e = .returned (.string (fmtS b x y)) ∧ Below w.heap.size w w' := by
  have hbox := Box.new w 24 #[.bool b, .string x, .string y]
  obtain ⟨r0, r1, r2, _, _, _⟩ := hbox.three
  have g1 : ¬ 9223372036854775807 < 1 + x.size := by omega
  have g2 : ¬ 9223372036854775807 < 1 + y.size := by omega
  have g3 : ¬ 9223372036854775807 < x.size + (1 + y.size) := by omega
  have g4 : ¬ 9223372036854775807 < 1 + x.size + (1 + y.size) := by omega
  rw [fmtS_eq]
  cases b <;> cases hd : (y.toList == [49])
  all_goals
    go_enter Tryz.func64, Tryz.ntmps64
    go_wp2_with fail
    all_goals first | (exfalso; omega) | skip
    go_ret
    refine ⟨?_, (Below.refl _ w).alloc (Nat.le_refl _) _⟩
    simp

theorem fmtS_size (b : Bool) (x y : ByteArray) : (fmtS b x y).size ≤ x.size + y.size + 2 := by
  have h : (fmtS b x y).size = (fmtL b x y).length := by rw [← len_list]; exact congrArg List.length (toList_mk _)
  rw [h]
  unfold fmtL
  have h1 := len_list x
  have h2 := len_list y
  cases b <;> cases (y.toList == [49]) <;> simp <;> omega

set_option maxRecDepth 100000 in
set_option maxHeartbeats 1600000 in
theorem drawParse_any (A : Option Addr) (n c : Nat) (w : World) (hn : n ≤ 9223372036854775807) (hA : BytesAt w A n w.heap.size) :
    Calls Tryz.prog 25 #[.slice A n c] w fun e w' => (∃ s, e = .returned (.string s) ∧ s.size ≤ 150) ∧ Below w.heap.size w w' := by
  have hC := cur_new (c := c) hn hA (Below.refl w.heap.size w)
  have hB := (Below.refl w.heap.size w).alloc (Nat.le_refl _) (.cells #[.slice A n c, .int .i64 0, .int .u64 0] 56)
  obtain ⟨W, hW⟩ : ∃ W, W = w.alloc (.cells #[.slice A n c, .int .i64 0, .int .u64 0] 56) := ⟨_, rfl⟩
  have hsz : W.heap.size = w.heap.size + 1 := by rw [hW]; simp
  rw [← hW] at hC hB
  clear hA hn
  obtain ⟨g, hg⟩ : ∃ g, g = w.heap.size := ⟨_, rfl⟩
  rw [← hg] at hC
  go_enter Tryz.func25, Tryz.ntmps25
  go_upto_region 2 with fail
  rw [← hW, ← hg]
  clear hW
  have Hg := Lib.hid hg
  clear hg
  have hgw : w.heap.size = g := Hg.out.symm
  go_wp2_with (first
    | (go_at_call 40; refine (anyRat_any g 0 _ hC (by omega)).mono ?_; rintro e w1 ⟨⟨b1, x1, y1, rfl, k1, k2, k3⟩, hc1, hb1⟩; have hs := fmtS_size b1 x1 y1)
    | (go_at_call 64; refine (specFormat2_any b1 x1 y1 _ (by omega) (by omega)).mono ?_; rintro e w2 ⟨rfl, hb2⟩; have hc2 := hc1.step hb2; have hb3 := hb1.step hb2)
    | (go_at_call 41; refine (cur_one g (0 + 20) 3 _ hc2 (by omega) (by omega) (by omega)).mono ?_; rintro e w3 ⟨⟨rb, rfl⟩, hc3, hb4⟩; have hb5 := hb3.trans hb4)
    | (go_at_call 70; refine (spoilt_any g (0 + 20 + 1) (fmtS b1 x1 y1) ⟨#[48, 49, 50, 51, 45, 47, 43]⟩ _ hc3 (by omega) (by omega) (by decide) (by decide)).mono ?_; rintro e w4 ⟨⟨s, rfl, hs4⟩, hc4, hb6⟩; have hb7 := hb5.trans hb6))
  all_goals go_ret
  · exact ⟨⟨_, rfl, by omega⟩, hB.trans (hb7.below (B := w.heap.size) (by omega) (by omega))⟩
  · exact ⟨⟨_, rfl, by omega⟩, hB.trans (hb5.below (B := w.heap.size) (by omega) (by omega))⟩

set_option maxRecDepth 100000 in
set_option maxHeartbeats 1600000 in
theorem drawRatOf_any (A : Option Addr) (n c : Nat) (w : World) (hn : n ≤ 9223372036854775807) (hA : BytesAt w A n w.heap.size) :
    Calls Tryz.prog 34 #[.slice A n c] w fun e w' => (∃ u v : Int, e = .returned (.tuple #[.int .i64 u, .int .i64 v]) ∧ -9223372036854775808 ≤ u ∧ u ≤ 9223372036854775807 ∧ -9223372036854775808 ≤ v ∧ v ≤ 9223372036854775807) ∧ Below w.heap.size w w' := by
  have hC := cur_new (c := c) hn hA (Below.refl w.heap.size w)
  have hB := (Below.refl w.heap.size w).alloc (Nat.le_refl _) (.cells #[.slice A n c, .int .i64 0, .int .u64 0] 56)
  obtain ⟨W, hW⟩ : ∃ W, W = w.alloc (.cells #[.slice A n c, .int .i64 0, .int .u64 0] 56) := ⟨_, rfl⟩
  have hsz : W.heap.size = w.heap.size + 1 := by rw [hW]; simp
  rw [← hW] at hC hB
  clear hA hn
  obtain ⟨g, hg⟩ : ∃ g, g = w.heap.size := ⟨_, rfl⟩
  rw [← hg] at hC
  go_enter Tryz.func34, Tryz.ntmps34
  go_upto_region 2 with fail
  rw [← hW, ← hg]
  clear hW
  have Hg := Lib.hid hg
  clear hg
  have hgw : w.heap.size = g := Hg.out.symm
  go_upto_if 9 with (go_at_call 41; refine (cur_one g 0 8 _ hC (by omega) (by omega) (by omega)).mono ?_; rintro e w1 ⟨⟨rb, rfl⟩, hc1, hb1⟩)
  have hg1 := hb1.size
  cases rb
  · go_wp2_with (first
      | (go_at_call_of 81 (Value.pointer (some ⟨g, 0, none⟩)); refine (cur_pick g (0 + 1) 60 _ hc1 (by omega) (by omega) (by omega)).mono ?_; rintro e w2 ⟨⟨z1, rfl, hz1⟩, hc2, hb2⟩; clear hc1; have hb3 := hb1.trans hb2; have hr1 : IntKind.i64.wrap ((z1 : Int) - 20) = (z1 : Int) - 20 := IntWalk.i64_in _ (by omega))
      | (go_at_call_of 81 (Value.pointer (some ⟨g, 0, none⟩)); refine (cur_pick g (0 + 1 + 1) 30 _ hc2 (by omega) (by omega) (by omega)).mono ?_; rintro e w3 ⟨⟨z2, rfl, hz2⟩, hc3, hb4⟩; have hb5 := hb3.trans hb4; have hr2 : IntKind.i64.wrap ((z2 : Int) - 6) = (z2 : Int) - 6 := IntWalk.i64_in _ (by omega)))
    go_ret2
    exact ⟨⟨_, _, rfl, by omega, by omega, by omega, by omega⟩, hB.trans (hb5.below (B := w.heap.size) (by omega) (by omega))⟩
  · have hal := (Below.refl w1.heap.size w1).alloc (Nat.le_refl _) (.cells numsA 3)
    have hc2 := hc1.step hal
    have hb2 := hb1.step hal
    have hrow := row_new (g := g) (t := 3) hc1.lt numsA_at
    clear hal hc1
    go_wp2_with (first
      | (go_at_call 60; refine (cur_among g (0 + 1 + 1) w2.heap.size 0 4 4 densF _ hc4 (by omega) (by omega) (by omega) hrow2).mono ?_; rintro e w3 ⟨⟨j2, hj2, rfl⟩, hc5, hb5⟩; have hb6 := hb4.trans hb5)
      | (go_at_call 60; refine (cur_among g (0 + 1) w1.heap.size 0 3 3 numsF _ hc2 (by omega) (by omega) (by omega) hrow).mono ?_; rintro e w2 ⟨⟨j1, hj1, rfl⟩, hc3, hb3⟩; have hal := (Below.refl w2.heap.size w2).alloc (Nat.le_refl _) (.cells densA 3); have hc4 := hc3.step hal; have hb4 := (hb2.trans hb3).step hal; have hrow2 := row_new (g := g) (t := 3) hc3.lt densA_at))
    go_ret2
    obtain ⟨p1, p2⟩ := numsF_in j1 hj1
    obtain ⟨q1, q2⟩ := densF_in j2 hj2
    exact ⟨⟨_, _, rfl, p1, p2, q1, by omega⟩, hB.trans (hb6.below (B := w.heap.size) (by omega) (by omega))⟩

end Go.Proofs.YtmmonglcbkefmaaGreatDoor
