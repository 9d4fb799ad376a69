/-
  Lists of expressions: the law's copies and comparisons of them.
-/
import Derived.Test.YtamjfcckgeakfaaExpr3
import Derived.Laws.MakeOwn
namespace Go.Proofs.Ytamjfcckgeakfaa
open Go.RowKit Num

/-- n expressions stand in a row from the address on. -/
def ExAt (w : World) (A : Option Addr) (n : Nat) (F : Nat → Nat → Int) : Prop :=
  0 < n → ∃ b off, A = some ⟨b, off, none⟩ ∧ b < w.heap.size ∧ ∀ j, j < n → ∀ c, c < 4 → w.cell? ⟨b, off + (j * 4 + c), none⟩ = some (.int .i64 (F j c))

theorem ExAt.below {B : Nat} {w w' : World} {A : Option Addr} {n : Nat} {F : Nat → Nat → Int} (h : ExAt w A n F) (hb : Below B w w') (hB : w.heap.size ≤ B) : ExAt w' A n F := fun h0 => by
  obtain ⟨b, off, rfl, h1, h2⟩ := h h0
  exact ⟨b, off, rfl, Nat.lt_of_lt_of_le h1 hb.size, fun j hj c hc => (hb.cell (p := ⟨b, off + (j * 4 + c), none⟩) (Nat.lt_of_lt_of_le h1 hB)).trans (h2 j hj c hc)⟩

theorem ExAt.at_ {w : World} {A : Option Addr} {n : Nat} {F : Nat → Nat → Int} (h : ExAt w A n F) {j : Nat} (hj : j < n) :
    ∃ b off, A = some ⟨b, off, none⟩ ∧ b < w.heap.size ∧ w.cell? ⟨b, off + j * 4, none⟩ = some (.int .i64 (F j 0)) ∧ w.cell? ⟨b, off + j * 4 + 1, none⟩ = some (.int .i64 (F j 1)) ∧ w.cell? ⟨b, off + j * 4 + 2, none⟩ = some (.int .i64 (F j 2)) ∧ w.cell? ⟨b, off + j * 4 + 3, none⟩ = some (.int .i64 (F j 3)) := by
  obtain ⟨b, off, rfl, h1, h2⟩ := h (by omega)
  exact ⟨b, off, rfl, h1, h2 j hj 0 (by omega), h2 j hj 1 (by omega), h2 j hj 2 (by omega), h2 j hj 3 (by omega)⟩

theorem four {w : World} {g : Nat} {t : TypeId} {cs : Array Value} (h : Box w g t cs) (i : Nat) (hi : i + 4 ≤ cs.size) :
    w.cell? ⟨g, i, none⟩ = some (cs.getD i undef) ∧ w.cell? ⟨g, i + 1, none⟩ = some (cs.getD (i + 1) undef) ∧ w.cell? ⟨g, i + 2, none⟩ = some (cs.getD (i + 2) undef) ∧ w.cell? ⟨g, i + 3, none⟩ = some (cs.getD (i + 3) undef) ∧
    w.frozen? ⟨g, i, none⟩ = false ∧ w.frozen? ⟨g, i + 1, none⟩ = false ∧ w.frozen? ⟨g, i + 2, none⟩ = false ∧ w.frozen? ⟨g, i + 3, none⟩ = false := by
  refine ⟨?_, ?_, ?_, ?_, h.free _, h.free _, h.free _, h.free _⟩
  all_goals rw [h.cell, Array.getD, dif_pos (by omega), Array.getElem?_eq_getElem (by omega)]; rfl

theorem fill4 (k n : Nat) (cs : Array Value) (F : Nat → Nat → Int) (hcs : cs.size = n * 4) (hk : k < n) (h : ∀ j, j < k → ∀ c, c < 4 → cs[j * 4 + c]? = some (.int .i64 (F j c))) :
    ∀ j, j < k + 1 → ∀ c, c < 4 → ((((cs.setIfInBounds (k * 4) (.int .i64 (F k 0))).setIfInBounds (k * 4 + 1) (.int .i64 (F k 1))).setIfInBounds (k * 4 + 2) (.int .i64 (F k 2))).setIfInBounds (k * 4 + 3) (.int .i64 (F k 3)))[j * 4 + c]? = some (.int .i64 (F j c)) := by
  intro j hj c hc
  simp only [Array.getElem?_setIfInBounds, Array.size_setIfInBounds]
  by_cases hjk : j < k
  · rw [if_neg (by omega), if_neg (by omega), if_neg (by omega), if_neg (by omega)]
    exact h j hjk c hc
  · obtain rfl : j = k := by omega
    match c, hc with
    | 0, _ => rw [if_neg (by omega), if_neg (by omega), if_neg (by omega), if_pos (by omega), if_pos (by omega)]
    | 1, _ => rw [if_neg (by omega), if_neg (by omega), if_pos (by omega), if_pos (by omega)]
    | 2, _ => rw [if_neg (by omega), if_pos (by omega), if_pos (by omega)]
    | 3, _ => rw [if_pos (by omega), if_pos (by omega)]

end Go.Proofs.Ytamjfcckgeakfaa
