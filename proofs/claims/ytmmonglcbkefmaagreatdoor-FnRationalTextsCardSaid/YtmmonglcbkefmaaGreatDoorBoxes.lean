/-
  Rats in their blocks; the tables behind one name.
-/
import Derived.Test.YtmmonglcbkefmaaGreatDoorDraws
import Derived.Test.YtmmonglcbkefmaaGreatDoorSpecMD
import Derived.Test.YtmmonglcbkefmaaGreatDoorRatOfA
namespace Go.Proofs.YtmmonglcbkefmaaGreatDoor
open Go.RowKit Num

/-- Rats in their blocks. -/
def Boxes (W : World) (l : List (Nat × Array Value)) : Prop := ∀ p ∈ l, Box W p.1 24 p.2
theorem Boxes.below {W W' : World} {l : List (Nat × Array Value)} (h : Boxes W l) (hb : Below W.heap.size W W') : Boxes W' l := fun p hp => (h p hp).below hb (h p hp).lt
theorem Boxes.more {W : World} {l : List (Nat × Array Value)} {g : Nat} {cs : Array Value} (h : Boxes W l) (hx : Box W g 24 cs) : Boxes W ((g, cs) :: l) := fun p hp => by
  rcases List.mem_cons.1 hp with rfl | hp
  · exact hx
  · exact h p hp
theorem Boxes.tail {W : World} {p : Nat × Array Value} {l : List (Nat × Array Value)} (h : Boxes W (p :: l)) : Boxes W l := fun q hq => h q (List.mem_cons_of_mem _ hq)
theorem Boxes.at {W : World} {l : List (Nat × Array Value)} (h : Boxes W l) (i : Nat) {g : Nat} {cs : Array Value} (hi : l[i]? = some (g, cs)) : Box W g 24 cs := h _ (List.mem_of_getElem? hi)

theorem Boxes.get {W : World} {l : List (Nat × Array Value)} (h : Boxes W l) (i : Nat) {g : Nat} {a b c : Value} (hi : l[i]? = some (g, #[a, b, c])) : W.cell? ⟨g, 0, none⟩ = some a ∧ W.cell? ⟨g, 1, none⟩ = some b ∧ W.cell? ⟨g, 2, none⟩ = some c := by
  obtain ⟨h1, h2, h3, _⟩ := (h.at i hi).three
  exact ⟨h1, h2, h3⟩

/-- A Rat that a call handed back is laid into a new block. -/
theorem laid_new {w V W1 : World} {l : List (Nat × Array Value)} (cs : Array Value) (hB : Below w.heap.size w V) (hL : Boxes V l) (hb : Below V.heap.size V W1) : Below w.heap.size w (W1.alloc (.cells cs 24)) ∧ Boxes (W1.alloc (.cells cs 24)) ((W1.heap.size, cs) :: l) := by
  have h1 := hB.trans (hb.mono hB.size)
  have hal := (Below.refl W1.heap.size W1).alloc (Nat.le_refl _) (.cells cs 24)
  exact ⟨h1.trans (hal.mono h1.size), ((hL.below hb).below hal).more (Box.new W1 _ cs)⟩

theorem ratRes_short {sg : Bool} {N D : Nat} {b : Bool} {x y : ByteArray} {c : Bool} (h : ratRes sg N D = .tuple #[.agg #[.bool b, .string x, .string y], .bool c]) : x.size ≤ 120 ∧ y.size ≤ 120 := by
  obtain ⟨b', x', y', c', e, h1, h2⟩ := ratRes_small sg N D
  rw [e] at h
  simp at h
  obtain ⟨⟨_, rfl, rfl⟩, _⟩ := h
  exact ⟨h1, h2⟩
theorem noRat_short {b : Bool} {x y : ByteArray} {c : Bool} (h : noRat = .tuple #[.agg #[.bool b, .string x, .string y], .bool c]) : x.size ≤ 120 ∧ y.size ≤ 120 := by
  simp [noRat] at h
  obtain ⟨⟨_, rfl, rfl⟩, _⟩ := h
  exact ⟨Nat.zero_le _, Nat.zero_le _⟩
theorem opRes_short {b1 : Bool} {x1 y1 : ByteArray} {b2 : Bool} {x2 y2 : ByteArray} {o : Bool × Nat × Nat} {b : Bool} {x y : ByteArray} {c : Bool} (h : opRes b1 x1 y1 b2 x2 y2 o = .tuple #[.agg #[.bool b, .string x, .string y], .bool c]) : x.size ≤ 120 ∧ y.size ≤ 120 := by
  unfold opRes at h
  split at h
  · exact ratRes_short h
  · exact noRat_short h
theorem divRes_short {b1 : Bool} {x1 y1 : ByteArray} {b2 : Bool} {x2 y2 : ByteArray} {b : Bool} {x y : ByteArray} {c : Bool} (h : divRes b1 x1 y1 b2 x2 y2 = .tuple #[.agg #[.bool b, .string x, .string y], .bool c]) : x.size ≤ 120 ∧ y.size ≤ 120 := by
  unfold divRes at h
  split at h
  · exact ratRes_short h
  · exact noRat_short h


/-- The tables that the program's arithmetic and texts read. -/
def TabsT (m : Int) (w : World) : Prop := UnitB w ∧ Tab64 w ∧ TabP w ∧ 2 < w.heap.size ∧ w.cell? ⟨2, 0, none⟩ = some (.int .i64 m)
theorem TabsT.below {m : Int} {w w' : World} (h : TabsT m w) (hb : Below w.heap.size w w') : TabsT m w' :=
  ⟨h.1.below hb, h.2.1.below hb, staysP.below _ _ h.2.2.1 hb, Nat.lt_of_lt_of_le h.2.2.2.1 hb.size, (hb.cell (p := ⟨2, 0, none⟩) h.2.2.2.1).trans h.2.2.2.2⟩

theorem BytesAt.up {w V : World} {A : Option Addr} {n : Nat} (h : BytesAt w A n w.heap.size) (hb : Below w.heap.size w V) : BytesAt V A n V.heap.size := fun h0 => by
  obtain ⟨b, off, rfl, h1, h2, h3⟩ := h h0
  have hs := hb.size
  refine ⟨b, off, rfl, by omega, by omega, fun j hj => ?_⟩
  obtain ⟨z, hz, hc⟩ := h3 j hj
  exact ⟨z, hz, (hb.cell (p := ⟨b, off + j, none⟩) h2).trans hc⟩

end Go.Proofs.YtmmonglcbkefmaaGreatDoor
