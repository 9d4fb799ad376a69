/-
  Programs: the law's copies of procedures, statements and whole programs.
-/
import Derived.Test.YtamjfcckgeakfaaPgTo
namespace Go.Proofs.Ytamjfcckgeakfaa
open Go.RowKit Num

theorem Box.far {w : World} {G H : Nat} {t : TypeId} {cs : Array Value} (h : Box w G t cs) (hne : H ≠ G) (i : Nat) (v : Value) : Box (w.setCell ⟨H, i, none⟩ v) G t cs := by
  unfold Box at h ⊢
  simp [World.setCell, Array.getElem?_modify, hne, h]

theorem Box.eight {w : World} {g : Nat} {t : TypeId} {a b c d e f i j : Value} (h : Box w g t #[a, b, c, d, e, f, i, j]) : w.cell? ⟨g, 0, none⟩ = some a ∧ w.cell? ⟨g, 1, none⟩ = some b ∧ w.cell? ⟨g, 2, none⟩ = some c ∧ w.cell? ⟨g, 3, none⟩ = some d ∧
    w.cell? ⟨g, 4, none⟩ = some e ∧ w.cell? ⟨g, 5, none⟩ = some f ∧ w.cell? ⟨g, 6, none⟩ = some i ∧ w.cell? ⟨g, 7, none⟩ = some j ∧ (∀ k, w.frozen? ⟨g, k, none⟩ = false) :=
  ⟨h.cell 0, h.cell 1, h.cell 2, h.cell 3, h.cell 4, h.cell 5, h.cell 6, h.cell 7, fun k => h.free k⟩

theorem Box.six {w : World} {g : Nat} {t : TypeId} {a b c d e f : Value} (h : Box w g t #[a, b, c, d, e, f]) : w.cell? ⟨g, 0, none⟩ = some a ∧ w.cell? ⟨g, 1, none⟩ = some b ∧ w.cell? ⟨g, 2, none⟩ = some c ∧ w.cell? ⟨g, 3, none⟩ = some d ∧
    w.cell? ⟨g, 4, none⟩ = some e ∧ w.cell? ⟨g, 5, none⟩ = some f ∧ (∀ k, w.frozen? ⟨g, k, none⟩ = false) :=
  ⟨h.cell 0, h.cell 1, h.cell 2, h.cell 3, h.cell 4, h.cell 5, fun k => h.free k⟩

theorem PrR.low {lo lo' : Nat} {pn : Nat → ByteArray} {pl : Nat → Nat} {pb : Nat → Nat → Int} {w : World} {j : Nat} {C : Nat → Value} (h : PrR lo pn pl pb w j C) (hl : lo' ≤ lo) : PrR lo' pn pl pb w j C := by
  obtain ⟨h0, A, c, h1, h2⟩ := h
  exact ⟨h0, A, c, h1, h2.low hl⟩

theorem StR.low {lo lo' : Nat} {st : Nat → Stm} {w : World} {j : Nat} {C : Nat → Value} (h : StR lo st w j C) (hl : lo' ≤ lo) : StR lo' st w j C := by
  obtain ⟨h0, h1, h2, ⟨A3, c3, h3, g3⟩, ⟨A4, c4, h4, g4⟩, ⟨A5, c5, h5, g5⟩, h6, h7⟩ := h
  exact ⟨h0, h1, h2, ⟨A3, c3, h3, g3.low hl⟩, ⟨A4, c4, h4, g4.low hl⟩, ⟨A5, c5, h5, g5.low hl⟩, h6, h7⟩

end Go.Proofs.Ytamjfcckgeakfaa
