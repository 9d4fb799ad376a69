/-
  Assigned variables, the model's walk through a block. (Written by gen_pgas.py.)
-/
import Derived.Test.YtdeilceakhgjlaaPgAs1
import Derived.Deep.RegionHeld3
namespace Go.Proofs.Ytdeilceakhgjlaa
open Go.RowKit Num

/-- Only block G and newer ones have changed. -/
def KeepG (G : Nat) (w w' : World) : Prop := Below G w w' ∧ Only G w w'
theorem KeepG.refl (G : Nat) (w : World) : KeepG G w w := ⟨Below.refl _ _, Only.refl _ _⟩
theorem KeepG.trans {G : Nat} {a b c : World} (h : KeepG G a b) (k : KeepG G b c) : KeepG G a c := ⟨h.1.trans k.1, h.2.trans k.2⟩
theorem KeepG.of_below {G : Nat} {w w' : World} (hb : Below w.heap.size w w') (hG : G ≤ w.heap.size) : KeepG G w w' := ⟨hb.mono hG, Only.below hb (Nat.le_refl _)⟩
theorem KeepG.set (G : Nat) (w : World) (i : Nat) (v : Value) : KeepG G w (w.setCell ⟨G, i, none⟩ v) := ⟨(Below.refl G w).setCell (p := ⟨G, i, none⟩) (Nat.le_refl _) v, Only.set G w i v⟩

theorem asC_vis {P : Prg} {f : Nat} {q : Int} {σ : Sg} (h : σ.1 q.toNat = true) : asC P f q σ = σ := by
  cases f with
  | zero => rfl
  | succ f => exact if_pos h
theorem asC_new {P : Prg} {f : Nat} {q : Int} {σ : Sg} (h : σ.1 q.toNat = false) : asC P (f + 1) q σ = foldS (asD P (asC P f) P.ns) (P.pb q.toNat) (P.pl q.toNat) (setU σ.1 q.toNat, σ.2) := by
  show (if σ.1 q.toNat = true then σ else _) = _
  rw [if_neg (by rw [h]; decide)]

end Go.Proofs.Ytdeilceakhgjlaa
