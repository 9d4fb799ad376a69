/-
  The cursor over a law's code that the model's drawing functions share: what it hands back, and that it writes nothing but itself.
-/
import Derived.Test.YtlfghhmphgidjaaDoorM1
import Derived.Laws.MakeOwn
import Derived.Deep.LoopGhost
import Derived.Deep.DeepCutAuto
import Derived.Deep.RegionHeld3
namespace Go.Proofs.YtlfghhmphgidjaaDoor
open Go.RowKit Num

/-- Of what there was, only block g may have turned. -/
structure But (g : Nat) (w w' : World) : Prop where
  os : w'.os = w.os
  tape : w'.tape = w.tape
  output : w'.output = w.output
  size : w.heap.size ≤ w'.heap.size
  block : ∀ k, k < w.heap.size → k ≠ g → w'.heap[k]? = w.heap[k]?

theorem But.refl (g : Nat) (w : World) : But g w w := ⟨rfl, rfl, rfl, Nat.le_refl _, fun _ _ _ => rfl⟩
theorem But.trans {g : Nat} {a b c : World} (h : But g a b) (k : But g b c) : But g a c :=
  ⟨k.os.trans h.os, k.tape.trans h.tape, k.output.trans h.output, Nat.le_trans h.size k.size, fun i hi hne => (k.block i (Nat.lt_of_lt_of_le hi h.size) hne).trans (h.block i hi hne)⟩
theorem But.of_below {g : Nat} {w w' : World} (h : Below w.heap.size w w') : But g w w' := ⟨h.os, h.tape, h.output, h.size, fun k hk _ => h.block k hk⟩
theorem But.below {g B : Nat} {w w' : World} (h : But g w w') (hB : B ≤ g) (hg : g ≤ w.heap.size) : Below B w w' := ⟨h.os, h.tape, h.output, h.size, fun k hk => h.block k (by omega) (by omega)⟩
theorem But.step {g : Nat} {w w1 w2 : World} (h : But g w w1) (k : Below w1.heap.size w1 w2) : But g w w2 := h.trans (But.of_below k)
theorem But.drewN {g : Nat} {w w1 : World} (n : Nat) (h : But g w w1) : But g w (w1.drewN n) := h.step (below_drewN n (Below.refl _ _))
theorem But.setCell {g : Nat} {w w1 : World} (h : But g w w1) (i : Nat) (u : Value) : But g w (w1.setCell ⟨g, i, none⟩ u) :=
  ⟨h.os, h.tape, h.output, by simpa [World.setCell] using h.size, fun k hk hne => by
    rw [← h.block k hk hne]
    exact Below.heap_setCell _ _ _ _ hne⟩
theorem Box.but {g b : Nat} {w w' : World} {t : TypeId} {cs : Array Value} (h : Box w b t cs) (k : But g w w') (hne : b ≠ g) : Box w' b t cs := (k.block b h.lt hne).trans h
theorem cell_but {g : Nat} {w w' : World} (k : But g w w') {p : Addr} (hp : p.block < w.heap.size) (hne : p.block ≠ g) : w'.cell? p = w.cell? p := by
  unfold World.cell?
  rw [k.block p.block hp hne]

/-- n bytes that can be read, in a block before g. -/
def BytesAt (w : World) (A : Option Addr) (n g : Nat) : Prop :=
  0 < n → ∃ b off, A = some ⟨b, off, none⟩ ∧ b < g ∧ b < w.heap.size ∧ ∀ j, j < n → ∃ z : Nat, z ≤ 255 ∧ w.cell? ⟨b, off + j, none⟩ = some (.int .u8 z)
theorem BytesAt.but {g : Nat} {w w' : World} {A : Option Addr} {n : Nat} (h : BytesAt w A n g) (k : But g w w') : BytesAt w' A n g := fun h0 => by
  obtain ⟨b, off, rfl, h1, h2, h3⟩ := h h0
  refine ⟨b, off, rfl, h1, Nat.lt_of_lt_of_le h2 k.size, fun j hj => ?_⟩
  obtain ⟨z, hz, hc⟩ := h3 j hj
  exact ⟨z, hz, (cell_but k (p := ⟨b, off + j, none⟩) h2 (by show b ≠ g; omega)).trans hc⟩

/-- A block made since may be written as well. -/
theorem But.new {g H : Nat} {w w1 : World} (h : But g w w1) (hH : w.heap.size ≤ H) (i : Nat) (u : Value) : But g w (w1.setCell ⟨H, i, none⟩ u) :=
  ⟨h.os, h.tape, h.output, by simpa [World.setCell] using h.size, fun k hk hne => by
    rw [← h.block k hk hne]
    exact Below.heap_setCell _ _ _ _ (by show k ≠ H; omega)⟩
theorem But.put3 {g H : Nat} {w w1 : World} (h : But g w w1) (hH : w.heap.size ≤ H) (x y z : Value) : But g w (((w1.setCell ⟨H, 0, none⟩ x).setCell ⟨H, 1, none⟩ y).setCell ⟨H, 2, none⟩ z) := ((h.new hH 0 x).new hH 1 y).new hH 2 z

theorem cell_far {w : World} {H i : Nat} {u : Value} {p : Addr} (hne : p.block ≠ H) : (w.setCell ⟨H, i, none⟩ u).cell? p = w.cell? p := by
  unfold World.cell?
  rw [show (w.setCell ⟨H, i, none⟩ u).heap[p.block]? = w.heap[p.block]? from Below.heap_setCell _ _ _ _ hne]

theorem low_byte (x : Int) : ∃ z : Nat, z ≤ 255 ∧ wrap64 (bits BinOp.and IntKind.u64 x 255) = (z : Int) := by
  have h : ((BitVec.ofInt IntKind.u64.bits x) &&& (BitVec.ofInt IntKind.u64.bits 255)).toNat ≤ 255 := by
    rw [BitVec.toNat_and]; exact Nat.le_trans Nat.and_le_right (by decide)
  refine ⟨_, h, ?_⟩
  have e : bits BinOp.and IntKind.u64 x 255 = IntKind.u64.wrap ((((BitVec.ofInt IntKind.u64.bits x) &&& (BitVec.ofInt IntKind.u64.bits 255)).toNat : Nat) : Int) := rfl
  rw [e]
  generalize ((BitVec.ofInt IntKind.u64.bits x) &&& (BitVec.ofInt IntKind.u64.bits 255)).toNat = q at h
  rw [IntWalk.u64_in _ (by omega)]
  unfold wrap64
  omega

/-- A list of k ints (of values) outside block g. -/
def RowAt (w : World) (b off k g : Nat) (V : Nat → Value) : Prop := b ≠ g ∧ b < w.heap.size ∧ ∀ j, j < k → w.cell? ⟨b, off + j, none⟩ = some (V j)

end Go.Proofs.YtlfghhmphgidjaaDoor
