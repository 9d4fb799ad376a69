/-
  IsValidDist: the model, the program and the law.
-/
import Derived.Test.YtlfghhmphgidjaaDoorDistS
import Derived.Test.YtlfghhmphgidjaaDoorMeas
import Derived.Deep.RegionWith
namespace Go.Proofs.YtlfghhmphgidjaaDoor
open Go.RowKit Num

set_option maxRecDepth 100000 in
set_option maxHeartbeats 1600000 in
theorem specDist_any (A0 : Option Addr) (n cap : Nat) (F : Nat → Int × Bool × ByteArray × ByteArray) (w : World) (hn : n ≤ 1048576) (hA : PtAt w A0 n F) (hs : ∀ j, j < n → (F j).2.2.1.size ≤ 9223372036854775807 ∧ (F j).2.2.2.size ≤ 9223372036854775807) :
    Calls Tryd.prog 5 #[.agg #[.slice A0 n cap]] w fun e w' => e = .returned (.bool (distOk F n)) ∧ Below w.heap.size w w' := by
  have CV : Hid (∀ W, Below w.heap.size w W → _) := Lib.hid fun W hW => validD_any A0 n cap F W hn (hA.below hW (Nat.le_refl _)) hs
  have hB := (Below.refl w.heap.size w).alloc (Nat.le_refl _) (.cells #[.slice A0 n cap] 29)
  have hd0 := (Box.new w 29 #[.slice A0 n cap]).cell 0
  clear hA hs
  go_enter Tryd.func5, Tryd.ntmps5
  go_wp2_with (go_at_call 10; refine (CV.out _ hB).mono ?_; rintro e w1 ⟨rfl, hb1⟩; have hB1 := hB.trans (hb1.mono hB.size))
  go_ret
  exact ⟨rfl, hB1⟩

set_option maxRecDepth 100000 in
set_option maxHeartbeats 1600000 in
theorem implDist_any (A0 : Option Addr) (n cap : Nat) (F : Nat → Int × Bool × ByteArray × ByteArray) (w : World) (hn : n ≤ 1048576) (hA : PtAt w A0 n F) (hs : ∀ j, j < n → (F j).2.2.1.size ≤ 9223372036854775807 ∧ (F j).2.2.2.size ≤ 9223372036854775807) (hU : UnitB w) (hT : Tab64 w) :
    Calls Tryd.prog 7 #[.agg #[.slice A0 n cap]] w fun e w' => e = .returned (.bool (distOk F n)) ∧ Below w.heap.size w w' := by
  have CM : Hid (∀ W, Below w.heap.size w W → _) := Lib.hid fun W hW => meas_any A0 n cap F W hn (hA.below hW (Nat.le_refl _)) hs (hU.below hW) (hT.below hW)
  have hB := (Below.refl w.heap.size w).alloc (Nat.le_refl _) (.cells #[.slice A0 n cap] 29)
  have hd0 := (Box.new w 29 #[.slice A0 n cap]).cell 0
  clear hA hs hU hT
  cases hv : distOk F n with
  | false =>
    have HV := Lib.hid hv
    clear hv
    go_enter Tryd.func7, Tryd.ntmps7
    go_wp2_with (go_at_call 12; refine (CM.out _ hB).mono ?_; rintro e w1 ⟨he, hb1⟩; rw [if_neg (by rw [HV.out]; decide)] at he; subst he; unfold noMeas; have hB1 := hB.trans (hb1.mono hB.size); have hB2 := hB1.alloc hB1.size (.cells #[.slice none 0 0, .slice none 0 0, .bool false, .slice none 0 0, .slice none 0 0] 42))
    go_ret
    exact ⟨rfl, hB2⟩
  | true =>
    have HV := Lib.hid hv
    clear hv
    go_enter Tryd.func7, Tryd.ntmps7
    go_wp2_with (go_at_call 12; refine (CM.out _ hB).mono ?_; rintro e w1 ⟨he, hb1⟩; rw [if_pos HV.out] at he; obtain ⟨A1, c1, A2, c2, A3, l3, c3, A4, l4, c4, rfl, _, _, _, _, _, _⟩ := he; have hB1 := hB.trans (hb1.mono hB.size); have hB2 := hB1.alloc hB1.size (.cells #[.slice A1 n c1, .slice A2 n c2, .bool false, .slice A3 l3 c3, .slice A4 l4 c4] 42))
    go_ret
    exact ⟨rfl, hB2⟩

set_option maxRecDepth 100000 in
set_option maxHeartbeats 3200000 in
theorem lawDist_any (A0 : Option Addr) (n cap : Nat) (F : Nat → Int × Bool × ByteArray × ByteArray) (w : World) (hn : n ≤ 9223372036854775807) (hA : PtAt w A0 n F) (hs : ∀ j, j < n → (F j).2.2.1.size ≤ 9223372036854775807 ∧ (F j).2.2.2.size ≤ 9223372036854775807) (hU : UnitB w) (hT : Tab64 w) :
    Calls Tryd.prog 3 #[.agg #[.slice A0 n cap]] w fun e w' => e = .returned (.bool true) ∧ Below w.heap.size w w' := by
  have CZ : Hid (∀ W, Below w.heap.size w W → _) := Lib.hid fun W hW => szDist_any A0 n cap F W hn (hA.below hW (Nat.le_refl _)) hs
  have hD := Box.new w 24 #[.slice A0 n cap]
  have hB := (Below.refl w.heap.size w).alloc (Nat.le_refl _) (.cells #[.slice A0 n cap] 24)
  have hd0 := hD.cell 0
  by_cases h : n ≤ 1048576
  · obtain ⟨r, hr⟩ : ∃ r, r = distOk F n := ⟨_, rfl⟩
    have CT : Hid (∀ W, Below w.heap.size w W → _) := Lib.hid fun W hW => toDist_any A0 n cap F W h (hA.below hW (Nat.le_refl _))
    have CS : Hid (∀ (A1 : Option Addr) (c1 : Nat) W, PtAt W A1 n F → _) := Lib.hid fun A1 c1 W g => specDist_any A1 n c1 F W h g hs
    have CM : Hid (∀ (A1 : Option Addr) (c1 : Nat) W, Below w.heap.size w W → PtAt W A1 n F → _) := Lib.hid fun A1 c1 W hW g => implDist_any A1 n c1 F W h g hs (hU.below hW) (hT.below hW)
    rw [← hr] at CS CM
    have hcc : (!r == r) = false := by cases r <;> rfl
    clear hr hU hT hs hA
    go_enter Tryd.func3, Tryd.ntmps3
    go_upto_region 6 with (first
      | (go_at_call 4; refine (CZ.out _ hB).mono ?_; rintro e w1 ⟨⟨m, rfl, hm1, hm2, hm3⟩, hb1⟩; clear hm3; have hB1 := hB.trans (hb1.mono hB.size); have hD1 := hD.below hb1 hD.lt; have hd1 := hD1.cell 0)
      | (go_at_call 6; refine (CT.out _ hB1).mono ?_; rintro e w2 ⟨⟨g2, rfl, hg2⟩, hb2⟩; have hB2 := hB1.trans (hb2.mono hB1.size); have hD2 := hD1.below hb2 hD1.lt)
      | (go_at_call 5; refine (CS.out _ _ _ hg2).mono ?_; rintro e w3 ⟨rfl, hb3⟩; have hB3 := hB2.trans (hb3.mono hB2.size); have hD3 := hD2.below hb3 hD2.lt; clear hg2; have hd3 := hD3.cell 0))
    · go_ret
      exact ⟨rfl, hB1⟩
    go_upto_region 7 with (go_at_call 6; refine (CT.out _ hB3).mono ?_; rintro e w4 ⟨⟨g4, rfl, hg4⟩, hb4⟩; have hB4 := (hB3.trans (hb4.mono hB3.size)).alloc (hB3.trans (hb4.mono hB3.size)).size (.cells #[.slice (some ⟨g4, 0, none⟩) n n] 29); have hD4 := (hD3.below hb4 hD3.lt).alloc (.cells #[.slice (some ⟨g4, 0, none⟩) n n] 29); have hE := Box.new w4 29 #[.slice (some ⟨g4, 0, none⟩) n n]; replace hg4 := hg4.below ((Below.refl w4.heap.size w4).alloc (Nat.le_refl _) (.cells #[.slice (some ⟨g4, 0, none⟩) n n] 29)) (Nat.le_refl _))
    obtain ⟨G, hG⟩ : ∃ G, G = w4.heap.size := ⟨_, rfl⟩
    rw [← hG] at hE ⊢
    obtain ⟨W4, hW⟩ : ∃ W, W = w4.alloc (.cells #[.slice (some ⟨g4, 0, none⟩) n n] 29) := ⟨_, rfl⟩
    rw [← hW] at hB4 hD4 hE hg4 ⊢
    clear hW hG hb4 hB3 hD3 hd3 hD2 hB2 hb3 hb2 hB1 hD1 hd1 hb1 hd0
    have he0 := hE.cell 0
    go_upto_region 10 with (go_at_call 7; refine (CM.out _ _ _ hB4 hg4).mono ?_; rintro e w6 ⟨rfl, hb6⟩; have hB6 := hB4.trans (hb6.mono hB4.size); replace hD4 := hD4.below hb6 hD4.lt; replace hE := hE.below hb6 hE.lt; have hg5 := hg4.below hb6 (Nat.le_refl _); have he6 := hE.cell 0; have hd6 := hD4.cell 0)
    go_region_with (first
      | (go_at_call 6; refine (CT.out _ hB6.drew).mono ?_; rintro e w7 ⟨⟨g7, rfl, hg7⟩, hb7⟩; have hB7 := hB6.drew.trans (hb7.mono hB6.drew.size); have he7 := (Box.below (w := w6.drew) hE hb7 hE.lt).cell 0)
      | (go_at_call 8; refine (eqDist_any _ _ n _ _ F _ h ((hg5.below (Below.refl _ w6).drew (Nat.le_refl _)).below hb7 (Nat.le_refl _)) hg7).mono ?_; rintro e w8 ⟨rfl, hb8⟩; have hB8 := hB7.trans (hb8.mono hB7.size)))
    all_goals go_wp2_with fail
    all_goals go_ret
    all_goals exact ⟨rfl, hB8⟩
  · go_enter Tryd.func3, Tryd.ntmps3
    go_wp2_with (go_at_call 4; refine (CZ.out _ hB).mono ?_; rintro e w1 ⟨⟨m, rfl, hm1, hm2, hm3⟩, hb1⟩; obtain hm0 : m < 0 := (by omega); have hB1 := hB.trans (hb1.mono hB.size))
    all_goals go_ret
    all_goals exact ⟨rfl, hB1⟩

end Go.Proofs.YtlfghhmphgidjaaDoor
