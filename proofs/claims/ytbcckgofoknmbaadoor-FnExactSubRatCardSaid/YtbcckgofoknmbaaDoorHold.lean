/-
  What a slice of numbers reads as in a world, and what of it stays when only newer blocks turn: the words that the contracts of both number formats are said in. Facts over the library alone; no function of the program is walked here.
-/
import Derived.Test.YtbcckgofoknmbaaDoorNum
import Derived.Test.YtbcckgofoknmbaaDoorChecked
import Derived.WalkKit
import Derived.WalkSpells
import Derived.WalkLawsBesides
import Derived.Lib.Hide
import Derived.Deep.QuietTactic
import Derived.BigQuiet
namespace Go.Proofs.YtbcckgofoknmbaaDoor
open Go.RowKit Num

/-- In the world w the slice value v has n elements, the numbers d 0, d 1, .. of kind k, in a block of the type t. -/
def RowF (t : TypeId) (k : IntKind) (w : World) (v : Value) (n : Nat) (d : Nat → Nat) : Prop :=
  (v = .slice none 0 0 ∧ n = 0) ∨
  ∃ b off cap, v = .slice (some ⟨b, off, none⟩) n cap ∧ n ≤ cap ∧ cap ≤ maxLen ∧ (∃ cs, w.heap[b]? = some (.cells cs t (0, 0))) ∧ ∀ j, j < n → w.cell? ⟨b, off + j, none⟩ = some (.int k (d j : Nat))

/-- In the world w the slice value v is the number x: its digits in base b, least significant first, without leading zeros. -/
def Nums (t : TypeId) (k : IntKind) (b : Nat) (w : World) (v : Value) (x : Nat) : Prop :=
  RowF t k w v (ln b x) fun j => (digs b x).getD j 0

theorem heap_lt {w : World} {b : Nat} {o : Obj} (h : w.heap[b]? = some o) : b < w.heap.size := (Array.getElem?_eq_some_iff.1 h).1

theorem RowF.below {t : TypeId} {k : IntKind} {B : Nat} {w w' : World} {v : Value} {n : Nat} {d : Nat → Nat} (h : RowF t k w v n d) (hb : Below B w w') (hB : w.heap.size ≤ B) : RowF t k w' v n d := by
  rcases h with h | ⟨b, off, cap, rfl, h1, h2, h3, h4⟩
  · exact .inl h
  · have h3' : b < B := by
      obtain ⟨cs, hcs⟩ := h3
      exact Nat.lt_of_lt_of_le (heap_lt hcs) hB
    refine .inr ⟨b, off, cap, rfl, h1, h2, ?_, fun j hj => ?_⟩
    · obtain ⟨cs, hcs⟩ := h3
      exact ⟨cs, (hb.block b h3').trans hcs⟩
    · rw [hb.cell (p := ⟨b, off + j, none⟩) h3']
      exact h4 j hj

theorem Nums.below {t : TypeId} {k : IntKind} {b B : Nat} {w w' : World} {v : Value} {x : Nat} (h : Nums t k b w v x) (hb : Below B w w') (hB : w.heap.size ≤ B) : Nums t k b w' v x :=
  RowF.below h hb hB

/-- The elements of a slice at the address A, of which nothing is known where it is empty. -/
def RowA (k : IntKind) (w : World) (A : Option Addr) (n : Nat) (d : Nat → Nat) : Prop :=
  0 < n → ∃ b off, A = some ⟨b, off, none⟩ ∧ b < w.heap.size ∧ ∀ j, j < n → w.cell? ⟨b, off + j, none⟩ = some (.int k (d j : Nat))

theorem RowF.open {t : TypeId} {k : IntKind} {w : World} {v : Value} {n : Nat} {d : Nat → Nat} (h : RowF t k w v n d) : ∃ A cap, v = .slice A n cap ∧ n ≤ cap ∧ cap ≤ 9223372036854775807 ∧ RowA k w A n d := by
  rcases h with ⟨rfl, rfl⟩ | ⟨b, off, cap, rfl, h1, h2, h3, h4⟩
  · exact ⟨none, 0, rfl, by omega, by omega, fun h => by omega⟩
  · exact ⟨_, cap, rfl, h1, by unfold maxLen at h2; omega, fun _ => ⟨b, off, rfl, heap_lt h3.choose_spec, h4⟩⟩

theorem RowA.below {k : IntKind} {B : Nat} {w w' : World} {A : Option Addr} {n : Nat} {d : Nat → Nat} (h : RowA k w A n d) (hb : Below B w w') (hB : w.heap.size ≤ B) : RowA k w' A n d := fun h0 => by
  obtain ⟨b, off, rfl, h1, h2⟩ := h h0
  exact ⟨b, off, rfl, Nat.lt_of_lt_of_le h1 hb.size, fun j hj => (hb.cell (p := ⟨b, off + j, none⟩) (Nat.lt_of_lt_of_le h1 hB)).trans (h2 j hj)⟩

theorem RowA.at_ {k : IntKind} {w : World} {A : Option Addr} {n : Nat} {d : Nat → Nat} (h : RowA k w A n d) {j : Nat} (hj : j < n) : ∃ b off, A = some ⟨b, off, none⟩ ∧ w.cell? ⟨b, off + j, none⟩ = some (.int k (d j : Nat)) := by
  obtain ⟨b, off, rfl, _, h2⟩ := h (by omega)
  exact ⟨b, off, rfl, h2 j hj⟩

theorem below_drewN (n : Nat) {B : Nat} {a w : World} (h : Below B a w) : Below B a (w.drewN n) :=
  ⟨h.os, h.tape, h.output, h.size, h.block⟩

theorem RowF.setCell {t : TypeId} {k : IntKind} {w : World} {v : Value} {n : Nat} {d : Nat → Nat} (h : RowF t k w v n d) {p : Addr} (hp : v.ownBlock ≠ some p.block) (u : Value) : RowF t k (w.setCell p u) v n d := by
  rcases h with h | ⟨b, off, cap, rfl, h1, h2, h3, h4⟩
  · exact .inl h
  · have hne : b ≠ p.block := fun e => hp (by rw [← e]; rfl)
    refine .inr ⟨b, off, cap, rfl, h1, h2, ?_, fun j hj => ?_⟩
    · obtain ⟨cs, hcs⟩ := h3
      exact ⟨cs, (Below.heap_setCell w p u b hne).trans hcs⟩
    · rw [World.cell?_of_block (w := w) (Below.heap_setCell w p u b hne)]
      exact h4 j hj

theorem Nums.setCell {t : TypeId} {k : IntKind} {b : Nat} {w : World} {v : Value} {x : Nat} (h : Nums t k b w v x) {p : Addr} (hp : v.ownBlock ≠ some p.block) (u : Value) : Nums t k b (w.setCell p u) v x := RowF.setCell h hp u

/-- Block g of the world w is just the cells cs, of element type t, none of them frozen. -/
def Box (w : World) (g : Nat) (t : TypeId) (cs : Array Value) : Prop := w.heap[g]? = some (.cells cs t (0, 0))

section
variable {w w' : World} {g : Nat} {t : TypeId} {cs : Array Value} {a b c : Value}
theorem Box.lt (h : Box w g t cs) : g < w.heap.size := (Array.getElem?_eq_some_iff.1 h).1
theorem Box.new (w : World) (t : TypeId) (cs : Array Value) : Box (w.alloc (.cells cs t)) w.heap.size t cs := heap_alloc_new w _
theorem Box.alloc (h : Box w g t cs) (o : Obj) : Box (w.alloc o) g t cs := (Below.heap_alloc w o g h.lt).trans h
theorem Box.below {B : Nat} (h : Box w g t cs) (hb : Below B w w') (hg : g < B) : Box w' g t cs := (hb.block g hg).trans h
theorem Box.cell (h : Box w g t cs) (i : Nat) : w.cell? ⟨g, i, none⟩ = cs[i]? := cell_of_row w g i cs t (0, 0) h
theorem Box.free (h : Box w g t cs) (i : Nat) : w.frozen? ⟨g, i, none⟩ = false := frozen_of_row w g i cs t h
/-- The three cells of a struct, as the walk asks for them. -/
theorem Box.three (h : Box w g t #[a, b, c]) : w.cell? ⟨g, 0, none⟩ = some a ∧ w.cell? ⟨g, 1, none⟩ = some b ∧ w.cell? ⟨g, 2, none⟩ = some c ∧ w.frozen? ⟨g, 0, none⟩ = false ∧ w.frozen? ⟨g, 1, none⟩ = false ∧ w.frozen? ⟨g, 2, none⟩ = false :=
  ⟨h.cell 0, h.cell 1, h.cell 2, h.free 0, h.free 1, h.free 2⟩
theorem Box.set (h : Box w g t cs) (i : Nat) (u : Value) : Box (w.setCell ⟨g, i, none⟩ u) g t (cs.setIfInBounds i u) := heap_setCell_same w g i cs t u h

/-- A row of another type does not lie in that block. -/
theorem RowF.apart {t' : TypeId} {k : IntKind} {v : Value} {n : Nat} {d : Nat → Nat} (h : RowF t' k w v n d) (hx : Box w g t cs) (hne : t' ≠ t) : v.ownBlock ≠ some g := by
  rcases h with ⟨rfl, _⟩ | ⟨b, off, cap, rfl, h1, h2, ⟨cs', h3⟩, h4⟩
  · simp [Value.ownBlock]
  · intro e
    have e' : b = g := by simpa [Value.ownBlock] using e
    subst e'
    unfold Box at hx
    rw [h3] at hx
    injection hx with hx
    injection hx with _ ht
    exact hne ht

theorem Nums.apart {t' : TypeId} {k : IntKind} {b x : Nat} {v : Value} (h : Nums t' k b w v x) (hx : Box w g t cs) (hne : t' ≠ t) : v.ownBlock ≠ some g := RowF.apart h hx hne

/-- A struct of three fields, stored whole: what its cells hold, as the walk asks for them. -/
theorem Box.put3 (h : Box w g t #[a, b, c]) (x y z : Value) : (w.setCell ⟨g, 0, none⟩ x).cell? ⟨g, 0, none⟩ = some x ∧ ((w.setCell ⟨g, 0, none⟩ x).setCell ⟨g, 1, none⟩ y).cell? ⟨g, 1, none⟩ = some y ∧
    (((w.setCell ⟨g, 0, none⟩ x).setCell ⟨g, 1, none⟩ y).setCell ⟨g, 2, none⟩ z).cell? ⟨g, 2, none⟩ = some z :=
  ⟨(h.set 0 x).cell 0, ((h.set 0 x).set 1 y).cell 1, (((h.set 0 x).set 1 y).set 2 z).cell 2⟩

theorem Nums.put3 {t' : TypeId} {k : IntKind} {b' n : Nat} {v : Value} (hn : Nums t' k b' w v n) (h : Box w g t cs) (hne : t' ≠ t) (x y z : Value) : Nums t' k b' (((w.setCell ⟨g, 0, none⟩ x).setCell ⟨g, 1, none⟩ y).setCell ⟨g, 2, none⟩ z) v n :=
  ((hn.setCell (p := ⟨g, 0, none⟩) (hn.apart h hne) x).setCell (p := ⟨g, 1, none⟩) (hn.apart h hne) y).setCell (p := ⟨g, 2, none⟩) (hn.apart h hne) z

theorem below_put3 {B : Nat} {w0 : World} (hb : Below B w0 w) (hg : B ≤ g) (x y z : Value) : Below B w0 (((w.setCell ⟨g, 0, none⟩ x).setCell ⟨g, 1, none⟩ y).setCell ⟨g, 2, none⟩ z) :=
  ((hb.setCell (p := ⟨g, 0, none⟩) hg x).setCell (p := ⟨g, 1, none⟩) hg y).setCell (p := ⟨g, 2, none⟩) hg z
end

theorem two_size {w w1 : World} {a b : Obj} {B : Nat} (h : Below B ((w.alloc a).alloc b) w1) : w.heap.size + 2 ≤ w1.heap.size := by
  have h1 := h.size
  simp only [World.size_alloc] at h1
  omega

theorem below_of_drew {w w1 : World} (h : Below w.drew.heap.size w.drew w1) : Below w.heap.size w w1 := ⟨h.os, h.tape, h.output, h.size, h.block⟩

theorem below_of_alloc_drew {w w1 : World} {o : Obj} (h : Below (w.alloc o).drew.heap.size (w.alloc o).drew w1) : Below w.heap.size w w1 :=
  ((Below.refl _ w).alloc (Nat.le_refl _) o).trans (Below.mono ⟨h.os, h.tape, h.output, h.size, h.block⟩ (by show _ ≤ (w.alloc o).heap.size; simp))

theorem quiet_left {P : Program} {f : FuncId} {args : Array Value} {w : World} {n : Nat} {v : Value}
    (h : Calls P f args (w.drewN n) fun e w' => e = .returned v ∧ w.drewN n = w') : Calls P f args (w.drewN n) fun e w'' => e = .returned v ∧ ∃ m, w'' = w.drewN m :=
  h.mono fun _ _ ⟨he, hm⟩ => ⟨he, n, hm.symm⟩

theorem quiet_add_left {P : Program} {f : FuncId} {args : Array Value} {w : World} {a n : Nat} {v : Value}
    (h : Calls P f args (w.drewN (a + n)) fun e w' => e = .returned v ∧ w.drewN (a + n) = w') :
    Calls P f args (w.drewN (a + n)) fun e w'' => e = .returned v ∧ ∃ m, w'' = w.drewN (a + m) :=
  h.mono fun _ _ ⟨he, hm⟩ => ⟨he, n, hm.symm⟩

theorem getD_eq (xs : List Nat) (j : Nat) (h : j < xs.length) : xs.getD j 0 = xs[j] := by
  simp [List.getD, h]

theorem bcell {W w1 : World} (hb : Below W.heap.size W w1) : (∀ b o, b < W.heap.size → w1.cell? ⟨b, o, none⟩ = W.cell? ⟨b, o, none⟩) ∧ (∀ b o, b < W.heap.size → w1.frozen? ⟨b, o, none⟩ = W.frozen? ⟨b, o, none⟩) :=
  ⟨fun b o h => hb.cell (p := ⟨b, o, none⟩) h, fun b o h => hb.frozen (p := ⟨b, o, none⟩) h⟩

theorem one_int (k : IntKind) (x : Int) : ∀ u ∈ [Value.int k x], u.oneCell' = true := by
  intro u hu
  rcases List.mem_singleton.1 hu with rfl
  rfl

theorem ret_int {k : IntKind} {a b : Int} (h : a = b) : Ending.returned (.int k a) = .returned (.int k b) := by rw [h]

end Go.Proofs.YtbcckgofoknmbaaDoor
