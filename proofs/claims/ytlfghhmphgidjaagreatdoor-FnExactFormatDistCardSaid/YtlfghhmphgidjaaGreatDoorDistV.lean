/-
  IsValidDist: the model, the program and the law.
-/
import Derived.Test.YtlfghhmphgidjaaGreatDoorDistS
import Derived.Test.YtlfghhmphgidjaaGreatDoorMeas
import Derived.Deep.RegionWith
namespace Go.Proofs.YtlfghhmphgidjaaGreatDoor
open Go.RowKit Num

set_option maxRecDepth 100000 in
set_option maxHeartbeats 1600000 in
theorem specDist_any (A0 : Option Addr) (n cap : Nat) (F : Nat → Int × Bool × ByteArray × ByteArray) (w : World) (hn : n ≤ 1048576) (hA : PtAt w A0 n F) (hs : ∀ j, j < n → (F j).2.2.1.size ≤ 9223372036854775807 ∧ (F j).2.2.2.size ≤ 9223372036854775807) :
    Calls Tryz.prog 54 #[.agg #[.slice A0 n cap]] w fun e w' => e = .returned (.bool (distOk F n)) ∧ Below w.heap.size w w' := by
  have CV : Hid (∀ W, Below w.heap.size w W → _) := Lib.hid fun W hW => validD_any A0 n cap F W hn (hA.below hW (Nat.le_refl _)) hs
  have hB := (Below.refl w.heap.size w).alloc (Nat.le_refl _) (.cells #[.slice A0 n cap] 32)
  have hd0 := (Box.new w 32 #[.slice A0 n cap]).cell 0
  clear hA hs
  go_enter Tryz.func54, Tryz.ntmps54
  go_wp2_with (go_at_call 61; refine (CV.out _ hB).mono ?_; rintro e w1 ⟨rfl, hb1⟩; have hB1 := hB.trans (hb1.mono hB.size))
  go_ret
  exact ⟨rfl, hB1⟩

set_option maxRecDepth 100000 in
set_option maxHeartbeats 1600000 in
theorem implDist_any (A0 : Option Addr) (n cap : Nat) (F : Nat → Int × Bool × ByteArray × ByteArray) (w : World) (hn : n ≤ 1048576) (hA : PtAt w A0 n F) (hs : ∀ j, j < n → (F j).2.2.1.size ≤ 9223372036854775807 ∧ (F j).2.2.2.size ≤ 9223372036854775807) (hU : UnitB w) (hT : Tab64 w) :
    Calls Tryz.prog 53 #[.agg #[.slice A0 n cap]] w fun e w' => e = .returned (.bool (distOk F n)) ∧ Below w.heap.size w w' := by
  have CM : Hid (∀ W, Below w.heap.size w W → _) := Lib.hid fun W hW => meas_any A0 n cap F W hn (hA.below hW (Nat.le_refl _)) hs (hU.below hW) (hT.below hW)
  have hB := (Below.refl w.heap.size w).alloc (Nat.le_refl _) (.cells #[.slice A0 n cap] 32)
  have hd0 := (Box.new w 32 #[.slice A0 n cap]).cell 0
  clear hA hs hU hT
  cases hv : distOk F n with
  | false =>
    have HV := Lib.hid hv
    clear hv
    go_enter Tryz.func53, Tryz.ntmps53
    go_wp2_with (go_at_call 65; refine (CM.out _ hB).mono ?_; rintro e w1 ⟨he, hb1⟩; rw [if_neg (by rw [HV.out]; decide)] at he; subst he; unfold noMeas; have hB1 := hB.trans (hb1.mono hB.size); have hB2 := hB1.alloc hB1.size (.cells #[.slice none 0 0, .slice none 0 0, .bool false, .slice none 0 0, .slice none 0 0] 87))
    go_ret
    exact ⟨rfl, hB2⟩
  | true =>
    have HV := Lib.hid hv
    clear hv
    go_enter Tryz.func53, Tryz.ntmps53
    go_wp2_with (go_at_call 65; refine (CM.out _ hB).mono ?_; rintro e w1 ⟨he, hb1⟩; rw [if_pos HV.out] at he; obtain ⟨A1, c1, A2, c2, A3, l3, c3, A4, l4, c4, rfl, _, _, _, _, _, _⟩ := he; have hB1 := hB.trans (hb1.mono hB.size); have hB2 := hB1.alloc hB1.size (.cells #[.slice A1 n c1, .slice A2 n c2, .bool false, .slice A3 l3 c3, .slice A4 l4 c4] 87))
    go_ret
    exact ⟨rfl, hB2⟩

end Go.Proofs.YtlfghhmphgidjaaGreatDoor
