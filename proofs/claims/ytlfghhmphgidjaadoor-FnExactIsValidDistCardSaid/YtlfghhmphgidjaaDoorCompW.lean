/-
  Several texts in one: CompF, CompR, CompI.
-/
import Derived.Test.YtlfghhmphgidjaaDoorGcdN
import Derived.Test.YtlfghhmphgidjaaDoorFracOfB
import Derived.Test.YtlfghhmphgidjaaDoorPWord
import Derived.Test.YtlfghhmphgidjaaDoorFracLaw
import Derived.BigRegion
/-
  The program's comparison of two fractions.
-/
namespace Go.Proofs.YtlfghhmphgidjaaDoor
open Go.RowKit Num

/-- The order of two fractions, as the document's chapter 1 has it. -/
def cmpR (b1 : Bool) (n1 d1 : Nat) (b2 : Bool) (n2 d2 : Nat) : Int :=
  if b1 = b2 then (if b1 = true then -(cmpI (n1 * d2) (n2 * d1)) else cmpI (n1 * d2) (n2 * d1)) else (if b1 = true then -1 else 1)

theorem cmpI_bd (x y : Nat) : -1 ≤ cmpI x y ∧ cmpI x y ≤ 1 := by unfold cmpI; split <;> (try split) <;> omega

theorem Box.other {w : World} {G H : Nat} {t : TypeId} {cs : Array Value} (h : Box w G t cs) (hne : H ≠ G) (i : Nat) (v : Value) : Box (w.setCell ⟨H, i, none⟩ v) G t cs := by
  unfold Box at h ⊢
  simp [World.setCell, Array.getElem?_modify, hne, h]

theorem hold6 {W w' : World} {G H : Nat} {t u : TypeId} {a b c d e f : Value} (h : Box W G t #[a, b, c]) (k : Box W H u #[d, e, f]) (hb : Below W.heap.size W w') : w'.cell? ⟨G, 0, none⟩ = some a ∧ w'.cell? ⟨G, 1, none⟩ = some b ∧ w'.cell? ⟨G, 2, none⟩ = some c ∧ w'.cell? ⟨H, 0, none⟩ = some d ∧ w'.cell? ⟨H, 1, none⟩ = some e ∧ w'.cell? ⟨H, 2, none⟩ = some f ∧ Below W.heap.size W w' := by
  obtain ⟨h1, h2, h3, _⟩ := (h.below hb h.lt).three
  obtain ⟨k1, k2, k3, _⟩ := (k.below hb k.lt).three
  exact ⟨h1, h2, h3, k1, k2, k3, hb⟩
theorem hold6_below {W w' : World} {a b c d e f : Prop} (h : a ∧ b ∧ c ∧ d ∧ e ∧ f ∧ Below W.heap.size W w') : Below W.heap.size W w' := h.2.2.2.2.2.2
theorem drawn_below {e r : Ending} {w w' : World} (h : e = r ∧ ∃ nq, w' = w.drewN nq) : e = r ∧ Below w.heap.size w w' := by
  obtain ⟨h, nq, rfl⟩ := h
  exact ⟨h, below_drewN nq (Below.refl _ w)⟩

end Go.Proofs.YtlfghhmphgidjaaDoor
/-
  The program's comparison of two Rats.
-/
namespace Go.Proofs.YtlfghhmphgidjaaDoor
open Go.RowKit Num

/-- A Rat read as a fraction: what comes back, with a word on whether it could be read. -/
theorem fracOf_one (b : Bool) (x y : ByteArray) (w : World) (hx : x.size ≤ 9223372036854775807) (hy : y.size ≤ 9223372036854775807) (hU : UnitB w) (hT : Tab64 w) (r : Bool) (hr : r = validR b x y) :
    Calls Tryd.prog 20 #[.agg #[.bool b, .string x, .string y]] w fun e w' => (∃ c A l k A' l' k', e = .returned (.tuple #[.agg #[.bool c, .slice A l k, .slice A' l' k'], .bool r]) ∧ (r = true → c = b ∧ Nums 76 .u64 WB w' (.slice A l k) (numOf x) ∧ Nums 76 .u64 WB w' (.slice A' l' k') (numOf y))) ∧ Below w.heap.size w w' := by
  refine (fracOf_all b x y w hx hy hU hT).mono fun e w' h => ⟨?_, h.2⟩
  have h1 := h.1
  rw [← hr] at h1
  cases r with
  | true =>
    rw [if_pos rfl] at h1
    obtain ⟨vn, vd, rfl, hn, hd⟩ := h1
    obtain ⟨An, cn, rfl, _, _, _⟩ := RowF.open hn
    obtain ⟨Ad, cd, rfl, _, _, _⟩ := RowF.open hd
    exact ⟨b, _, _, _, _, _, _, rfl, fun _ => ⟨rfl, hn, hd⟩⟩
  | false =>
    rw [if_neg (by decide)] at h1
    exact ⟨false, none, 0, 0, none, 0, 0, h1, fun h => by cases h⟩

def PairPost (w : World) (b1 : Bool) (x1 y1 : ByteArray) (b2 : Bool) (x2 y2 : ByteArray) (r : Bool) (e : Ending) (w' : World) : Prop :=
  (∃ c1 A1 l1 k1 A2 l2 k2 c2 A3 l3 k3 A4 l4 k4, e = .returned (.tuple #[.agg #[.bool c1, .slice A1 l1 k1, .slice A2 l2 k2], .agg #[.bool c2, .slice A3 l3 k3, .slice A4 l4 k4], .bool r]) ∧
    (r = true → (c1 = b1 ∧ Nums 76 .u64 WB w' (.slice A1 l1 k1) (numOf x1) ∧ Nums 76 .u64 WB w' (.slice A2 l2 k2) (numOf y1)) ∧ (c2 = b2 ∧ Nums 76 .u64 WB w' (.slice A3 l3 k3) (numOf x2) ∧ Nums 76 .u64 WB w' (.slice A4 l4 k4) (numOf y2)))) ∧ Below w.heap.size w w'

end Go.Proofs.YtlfghhmphgidjaaDoor
/-
  The program's CompareRat.
-/
namespace Go.Proofs.YtlfghhmphgidjaaDoor
open Go.RowKit Num

theorem ln_capW {s : ByteArray} (h : isNum s = true) : ln WB (numOf s) ≤ 549755813888 :=
  Nat.le_trans (ln_le_of_lt WB _ 7 (by unfold WB; omega) (Nat.lt_of_lt_of_le (numOf_lt h) pow120)) (by omega)

theorem validR_num {b : Bool} {x y : ByteArray} (h : validR b x y = true) : isNum x = true ∧ isNum y = true ∧ numOf y ≠ 0 ∧ (numOf x = 0 → b = false) := by
  unfold validR at h
  simp only [Bool.and_eq_true, decide_eq_true_eq] at h
  exact ⟨h.1.1.1.1, h.1.1.1.2, h.1.1.2, fun e => (h.1.2 e).1⟩

/-- What the comparison of two Rats hands back. -/
def cmpRes (b1 : Bool) (x1 y1 : ByteArray) (b2 : Bool) (x2 y2 : ByteArray) : Int :=
  if (validR b1 x1 y1 && validR b2 x2 y2) = true then cmpR b1 (numOf x1) (numOf y1) b2 (numOf x2) (numOf y2) else 0

end Go.Proofs.YtlfghhmphgidjaaDoor
