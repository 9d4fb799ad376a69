/-
  IsValidDiagram: both sides answer the same bool.
-/
import Derived.Test.YtamjfcckgeakfaaDgG
namespace Go.Proofs.Ytamjfcckgeakfaa
open Go.RowKit Num

open Classical in
/-- Whether a diagram is valid. -/
noncomputable def vaB (L ro : Int) (n : Nat) (f : Nat → Int) : Bool := decide (VdP L ro n f)
theorem vaB_iff (L ro : Int) (n : Nat) (f : Nat → Int) : vaB L ro n f = true ↔ VdP L ro n f := by unfold vaB; simp

theorem Yd.eq {p : Prop} {z : Bool} {w w' : World} {e : Ending} (hz : z = true ↔ p) (h : Yd p w e w') : e = .returned (.bool z) ∧ Below w.heap.size w w' := by
  obtain ⟨r, rfl, hr, hb⟩ := h
  obtain rfl : r = z := Bool.eq_iff_iff.2 (hr.out.trans hz.symm)
  exact ⟨rfl, hb⟩

theorem implVaE_any (lo : Nat) (L ro : Int) (n c : Nat) (A0 : Option Addr) (f : Nat → Int) (w : World) (hn : n ≤ 1048576) (h0 : IntsAt lo w A0 (n * 3) f) :
    Calls Try.prog 45 #[dgV L A0 n c ro] w fun e w' => e = .returned (.bool (vaB L ro n f)) ∧ Below w.heap.size w w' :=
  (implVd_any lo L ro n c A0 f w hn h0).mono fun _ _ h => Yd.eq (vaB_iff L ro n f) h

theorem specGdE_any (lo : Nat) (L ro : Int) (n c : Nat) (A0 : Option Addr) (f : Nat → Int) (w : World) (hn : n ≤ 1048576) (h0 : IntsAt lo w A0 (n * 3) f) :
    Calls Try.prog 39 #[dgV L A0 n c ro] w fun e w' => e = .returned (.bool (vaB L ro n f)) ∧ Below w.heap.size w w' :=
  (specVd_any lo L ro n c A0 f w hn h0).mono fun _ _ h => Yd.eq ((vaB_iff L ro n f).trans (vd_iff L ro n f)) h

end Go.Proofs.Ytamjfcckgeakfaa
