/-
  The law on SumRats.
-/
import Derived.Test.YtmmonglcbkefmaaGreatDoorSumJ
namespace Go.Proofs.YtmmonglcbkefmaaGreatDoor
open Go.RowKit Num

theorem sumRes_shape (F : Nat → Bool × ByteArray × ByteArray) (n : Nat) : ∃ rb rx ry rc, sumRes F n = .tuple #[.agg #[.bool rb, .string rx, .string ry], .bool rc] := by
  unfold sumRes
  split
  · exact ratRes_shape _ _ _
  · exact ⟨false, ⟨#[]⟩, ⟨#[]⟩, false, rfl⟩

set_option maxRecDepth 100000 in
set_option maxHeartbeats 1600000 in
theorem lawSum_any (A0 : Option Addr) (n cap : Nat) (F : Nat → Bool × ByteArray × ByteArray) (w : World) (hn : n ≤ 9223372036854775807) (hA : RatAt w A0 n F) (hs : ∀ j, j < n → (F j).2.1.size ≤ 9223372036854775807 ∧ (F j).2.2.size ≤ 9223372036854775807) (hU : UnitB w) (hT : Tab64 w) (hP : TabP w) :
    Calls Tryz.prog 5 #[.slice A0 n cap] w fun e w' => e = .returned (.bool true) ∧ Below w.heap.size w w' := by
  have CZ : Hid (∀ (_ : Unit), _) := Lib.hid fun _ => szRatS_any A0 n cap F w hn hA hs
  have HA := Lib.hid hA; clear hA
  by_cases h : n ≤ 1048576
  · obtain ⟨r, hr⟩ : ∃ r, r = sumRes F n := ⟨_, rfl⟩
    have CS : Hid (∀ (A1 : Option Addr) (c1 : Nat) W, RatAt W A1 n F → _) := Lib.hid fun A1 c1 W g => specSum_any A1 n c1 F W h g hs
    have CM : Hid (∀ (A1 : Option Addr) (c1 : Nat) W, Below w.heap.size w W → RatAt W A1 n F → _) := Lib.hid fun A1 c1 W hW g => implSum_any A1 n c1 F W h g hs (hU.below hW) (hT.below hW) (staysP.below _ _ hP hW)
    have CT : Hid (∀ W, RatAt W A0 n F → _) := Lib.hid fun W g => toRatS_any A0 n cap F W h g
    rw [← hr] at CS CM
    obtain ⟨rb, rx, ry, rc, hres⟩ := sumRes_shape F n
    rw [← hr] at hres
    rw [hres] at CS CM
    have hcc : (!rc == rc) = false := by cases rc <;> rfl
    clear hr hres hU hT hP hs
    go_enter Tryz.func5, Tryz.ntmps5
    go_upto_region 6 with (first
      | (go_at_call 36; refine (CZ.out ()).mono ?_; rintro e w1 ⟨⟨m, rfl, hm⟩, hb1⟩)
      | (go_at_call 37; refine (CT.out _ (HA.out.below hb1 (Nat.le_refl _))).mono ?_; rintro e w2 ⟨⟨g2, rfl, hg2⟩, hb2⟩; have hB2 := hb1.trans (hb2.mono hb1.size))
      | (go_at_call 33; refine (CS.out _ _ _ hg2).mono ?_; rintro e w3 ⟨rfl, hb3⟩; have hB3 := hB2.trans (hb3.mono hB2.size); have hX := Box.new w3 24 #[.bool rb, .string rx, .string ry]; replace hB3 := hB3.alloc hB3.size (.cells #[.bool rb, .string rx, .string ry] 24); clear hg2))
    · go_ret
      exact ⟨rfl, hb1⟩
    go_upto_region 7 with (go_at_call 37; refine (CT.out _ (HA.out.below hB3 (Nat.le_refl _))).mono ?_; rintro e w4 ⟨⟨g4, rfl, hg4⟩, hb4⟩; have hB4 := hB3.trans (hb4.mono hB3.size); replace hX := hX.below hb4 hX.lt)
    go_upto_region 8 with (go_at_call 32; refine (CM.out _ _ _ hB4 hg4).mono ?_; rintro e w5 ⟨rfl, hb5⟩; have hB5 := hB4.trans (hb5.mono hB4.size); replace hX := hX.below hb5 hX.lt; have hg5 := hg4.below hb5 (Nat.le_refl _); have hY := Box.new w5 24 #[.bool rb, .string rx, .string ry]; have hal := (Below.refl w5.heap.size w5).alloc (Nat.le_refl _) (.cells #[.bool rb, .string rx, .string ry] 24); replace hX := hX.below hal hX.lt; replace hg5 := hg5.below hal (Nat.le_refl _); replace hB5 := hB5.trans (hal.mono hB5.size); clear hg4)
    obtain ⟨x0, x1, x2, _, _, _⟩ := hX.three
    obtain ⟨y0, y1, y2, _, _, _⟩ := hY.three
    go_upto_region 10 with (go_at_call 38; refine (eqRat_same rb rx ry _).mono ?_; rintro e w6 ⟨rfl, hb6⟩; have hB6 := hB5.trans (hb6.mono hB5.size); replace hg5 := hg5.below hb6 (Nat.le_refl _))
    go_wp2_with (first
      | (go_at_call 37; refine (CT.out _ (HA.out.below hB6 (Nat.le_refl _))).mono ?_; rintro e w7 ⟨⟨g7, rfl, hg7⟩, hb7⟩; have hB7 := hB6.trans (hb7.mono hB6.size))
      | (go_at_call 39; refine (eqRatS_any _ _ n _ _ F _ h (hg5.below hb7 (Nat.le_refl _)) hg7).mono ?_; rintro e w8 ⟨rfl, hb8⟩; have hB8 := hB7.trans (hb8.mono hB7.size)))
    all_goals go_ret
    all_goals exact ⟨rfl, hB8⟩
  · go_enter Tryz.func5, Tryz.ntmps5
    go_wp2_with (go_at_call 36; refine (CZ.out ()).mono ?_; rintro e w1 ⟨⟨m, rfl, hm⟩, hb1⟩; obtain hm0 : m < 0 := (by omega))
    all_goals go_ret
    all_goals exact ⟨rfl, hb1⟩

end Go.Proofs.YtmmonglcbkefmaaGreatDoor
