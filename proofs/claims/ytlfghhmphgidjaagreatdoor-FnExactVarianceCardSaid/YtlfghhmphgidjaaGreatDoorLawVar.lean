/-
  The law on Variance. (Written by gen_distlaw.py.)
-/
import Derived.Test.YtlfghhmphgidjaaGreatDoorVar
import Derived.Test.YtlfghhmphgidjaaGreatDoorEqRat
import Derived.Deep.RegionWith
namespace Go.Proofs.YtlfghhmphgidjaaGreatDoor
open Go.RowKit Num

set_option maxRecDepth 100000 in
set_option maxHeartbeats 3200000 in
theorem lawVar_any (A0 : Option Addr) (n cap : Nat) (F : Nat → Int × Bool × ByteArray × ByteArray) (w : World) (hn : n ≤ 9223372036854775807) (hA : PtAt w A0 n F) (hs : ∀ j, j < n → (F j).2.2.1.size ≤ 9223372036854775807 ∧ (F j).2.2.2.size ≤ 9223372036854775807) (hU : UnitB w) (hT : Tab64 w) (hP : TabP w) :
    Calls Tryz.prog 11 #[.agg #[.slice A0 n cap]] w fun e w' => e = .returned (.bool true) ∧ Below w.heap.size w w' := by
  have CZ : Hid (∀ W, Below w.heap.size w W → _) := Lib.hid fun W hW => szDist_any A0 n cap F W hn (hA.below hW (Nat.le_refl _)) hs
  have hD := Box.new w 24 #[.slice A0 n cap]
  have hB := (Below.refl w.heap.size w).alloc (Nat.le_refl _) (.cells #[.slice A0 n cap] 24)
  have hd0 := hD.cell 0
  by_cases h : n ≤ 1048576
  · obtain ⟨r, hr⟩ : ∃ r, r = varRes F n := ⟨_, rfl⟩
    have CT : Hid (∀ W, Below w.heap.size w W → _) := Lib.hid fun W hW => toDist_any A0 n cap F W h (hA.below hW (Nat.le_refl _))
    have CS : Hid (∀ (A1 : Option Addr) (c1 : Nat) W, PtAt W A1 n F → _) := Lib.hid fun A1 c1 W g => varS_any A1 n c1 F W h g hs
    have CM : Hid (∀ (A1 : Option Addr) (c1 : Nat) W, Below w.heap.size w W → PtAt W A1 n F → _) := Lib.hid fun A1 c1 W hW g => implVar_any A1 n c1 F W h g hs (hU.below hW) (hT.below hW) (staysP.below _ _ hP hW)
    rw [← hr] at CS CM
    obtain ⟨rb, rx, ry, rc, hres⟩ := varRes_shape F n
    rw [← hr] at hres
    rw [hres] at CS CM
    have hcc : (!rc == rc) = false := by cases rc <;> rfl
    clear hr hres hU hT hP hs hA
    go_enter Tryz.func11, Tryz.ntmps11
    go_upto_region 6 with (first
      | (go_at_call 16; refine (CZ.out _ hB).mono ?_; rintro e w1 ⟨⟨m, rfl, hm1, hm2, hm3⟩, hb1⟩; clear hm3; have hB1 := hB.trans (hb1.mono hB.size); have hD1 := hD.below hb1 hD.lt; have hd1 := hD1.cell 0)
      | (go_at_call 18; refine (CT.out _ hB1).mono ?_; rintro e w2 ⟨⟨g2, rfl, hg2⟩, hb2⟩; have hB2 := hB1.trans (hb2.mono hB1.size); have hD2 := hD1.below hb2 hD1.lt)
      | (go_at_call 43; refine (CS.out _ _ _ hg2).mono ?_; rintro e w3 ⟨rfl, hb3⟩; have hB3 := hB2.trans (hb3.mono hB2.size); have hD3 := (hD2.below hb3 hD2.lt).alloc (.cells #[.bool rb, .string rx, .string ry] 27); have hX := Box.new w3 27 #[.bool rb, .string rx, .string ry]; replace hB3 := hB3.alloc hB3.size (.cells #[.bool rb, .string rx, .string ry] 27); clear hg2; have hd3 := hD3.cell 0))
    · go_ret
      exact ⟨rfl, hB1⟩
    go_upto_region 7 with (go_at_call 18; refine (CT.out _ hB3).mono ?_; rintro e w4 ⟨⟨g4, rfl, hg4⟩, hb4⟩; have hB4 := (hB3.trans (hb4.mono hB3.size)).alloc (hB3.trans (hb4.mono hB3.size)).size (.cells #[.slice (some ⟨g4, 0, none⟩) n n] 32); have hD4 := (hD3.below hb4 hD3.lt).alloc (.cells #[.slice (some ⟨g4, 0, none⟩) n n] 32); replace hX := (hX.below hb4 hX.lt).alloc (.cells #[.slice (some ⟨g4, 0, none⟩) n n] 32); have hE := Box.new w4 32 #[.slice (some ⟨g4, 0, none⟩) n n]; replace hg4 := hg4.below ((Below.refl w4.heap.size w4).alloc (Nat.le_refl _) (.cells #[.slice (some ⟨g4, 0, none⟩) n n] 32)) (Nat.le_refl _))
    obtain ⟨G, hG⟩ : ∃ G, G = w4.heap.size := ⟨_, rfl⟩
    rw [← hG] at hE ⊢
    obtain ⟨W4, hW⟩ : ∃ W, W = w4.alloc (.cells #[.slice (some ⟨g4, 0, none⟩) n n] 32) := ⟨_, rfl⟩
    rw [← hW] at hB4 hD4 hX hE hg4 ⊢
    clear hW hG hb4 hB3 hD3 hd3 hD2 hB2 hb3 hb2 hB1 hD1 hd1 hb1 hd0
    have he0 := hE.cell 0
    go_upto_region 8 with (go_at_call 44; refine (CM.out _ _ _ hB4 hg4).mono ?_; rintro e w5 ⟨rfl, hb5⟩; have hB5 := hB4.trans (hb5.mono hB4.size); replace hX := hX.below hb5 hX.lt; replace hD4 := hD4.below hb5 hD4.lt; replace hE := hE.below hb5 hE.lt; have hg5 := hg4.below hb5 (Nat.le_refl _); have hY := Box.new w5 27 #[.bool rb, .string rx, .string ry]; have hal := (Below.refl w5.heap.size w5).alloc (Nat.le_refl _) (.cells #[.bool rb, .string rx, .string ry] 27); replace hX := hX.below hal hX.lt; replace hD4 := hD4.below hal hD4.lt; replace hE := hE.below hal hE.lt; replace hg5 := hg5.below hal (Nat.le_refl _); replace hB5 := hB5.trans (hal.mono hB5.size); clear hg4)
    obtain ⟨x0, x1, x2, _, _, _⟩ := hX.three
    obtain ⟨y0, y1, y2, _, _, _⟩ := hY.three
    go_upto_region 10 with (go_at_call 20; refine (eqRat_same rb rx ry _).mono ?_; rintro e w6 ⟨rfl, hb6⟩; have hB6 := hB5.trans (hb6.mono hB5.size); replace hg5 := hg5.below hb6 (Nat.le_refl _); replace hD4 := hD4.below hb6 hD4.lt; replace hE := hE.below hb6 hE.lt; have he6 := hE.cell 0; have hd6 := hD4.cell 0)
    go_region_with (first
      | (go_at_call 18; refine (CT.out _ hB6.drew).mono ?_; rintro e w7 ⟨⟨g7, rfl, hg7⟩, hb7⟩; have hB7 := hB6.drew.trans (hb7.mono hB6.drew.size); have he7 := (Box.below (w := w6.drew) hE hb7 hE.lt).cell 0)
      | (go_at_call 21; refine (eqDist_any _ _ n _ _ F _ h ((hg5.below (Below.refl _ w6).drew (Nat.le_refl _)).below hb7 (Nat.le_refl _)) hg7).mono ?_; rintro e w8 ⟨rfl, hb8⟩; have hB8 := hB7.trans (hb8.mono hB7.size)))
    all_goals go_wp2_with fail
    all_goals go_ret
    all_goals exact ⟨rfl, hB8⟩
  · go_enter Tryz.func11, Tryz.ntmps11
    go_wp2_with (go_at_call 16; refine (CZ.out _ hB).mono ?_; rintro e w1 ⟨⟨m, rfl, hm1, hm2, hm3⟩, hb1⟩; obtain hm0 : m < 0 := (by omega); have hB1 := hB.trans (hb1.mono hB.size))
    all_goals go_ret
    all_goals exact ⟨rfl, hB1⟩

end Go.Proofs.YtlfghhmphgidjaaGreatDoor
