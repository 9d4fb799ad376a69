/-
  Marking: what may change when all data of a copy are overwritten, kind by kind, and what stays.
-/
import Derived.Test.YtamjfcckgeakfaaPgT2
namespace Go.Proofs.Ytamjfcckgeakfaa
open Go.RowKit Num

/-- The same kind of value; slices are the same. -/
def Kin (v v' : Value) : Prop := v = v' ∨ (∃ z z', v = .int .i64 z ∧ v' = .int .i64 z') ∨ ∃ s s', v = .string s ∧ v' = .string s'
theorem Kin.int {z : Int} {v : Value} (h : Kin (.int .i64 z) v) : ∃ z', v = .int .i64 z' := by
  rcases h with rfl | ⟨_, z', _, rfl⟩ | ⟨s, s', e, _⟩
  · exact ⟨z, rfl⟩
  · exact ⟨z', rfl⟩
  · cases e
theorem Kin.str {s : ByteArray} {v : Value} (h : Kin (.string s) v) : ∃ s', v = .string s' := by
  rcases h with rfl | ⟨z, z', e, _⟩ | ⟨_, s', _, rfl⟩
  · exact ⟨s, rfl⟩
  · cases e
  · exact ⟨s', rfl⟩
theorem Kin.sl {A : Option Addr} {n c : Nat} {v : Value} (h : Kin (.slice A n c) v) : v = .slice A n c := by
  rcases h with rfl | ⟨z, z', e, _⟩ | ⟨s, s', e, _⟩
  · rfl
  · cases e
  · cases e
theorem Kin.trans {a b c : Value} (h : Kin a b) (k : Kin b c) : Kin a c := by
  rcases h with rfl | ⟨z, z', rfl, rfl⟩ | ⟨s, s', rfl, rfl⟩
  · exact k
  · obtain ⟨y, rfl⟩ := k.int
    exact .inr (.inl ⟨z, y, rfl, rfl⟩)
  · obtain ⟨y, rfl⟩ := k.str
    exact .inr (.inr ⟨s, y, rfl, rfl⟩)

theorem cell_in {W : World} {b i : Nat} {v : Value} (h : W.cell? ⟨b, i, none⟩ = some v) : b < W.heap.size := by
  unfold World.cell? at h
  rcases Nat.lt_or_ge b W.heap.size with h' | h'
  · exact h'
  · rw [Array.getElem?_eq_none h'] at h; cases h

/-- From w to w' blocks from lo on and below hi have changed, cell by cell within their kinds. -/
structure Marks (lo hi : Nat) (w w' : World) : Prop where
  os : w'.os = w.os
  tape : w'.tape = w.tape
  output : w'.output = w.output
  size : w.heap.size ≤ w'.heap.size
  fro : ∀ b i, b < w.heap.size → w'.frozen? ⟨b, i, none⟩ = w.frozen? ⟨b, i, none⟩
  kin : ∀ b i v, w.cell? ⟨b, i, none⟩ = some v → ∃ v', w'.cell? ⟨b, i, none⟩ = some v' ∧ Kin v v'
  out : ∀ b, b < w.heap.size → (b < lo ∨ hi ≤ b) → w'.heap[b]? = w.heap[b]?

section
variable {lo hi : Nat} {w w1 w2 : World}
theorem Marks.refl (lo hi : Nat) (w : World) : Marks lo hi w w := ⟨rfl, rfl, rfl, Nat.le_refl _, fun _ _ _ => rfl, fun _ _ v h => ⟨v, h, .inl rfl⟩, fun _ _ _ => rfl⟩
theorem Marks.trans (h : Marks lo hi w w1) (k : Marks lo hi w1 w2) : Marks lo hi w w2 :=
  ⟨k.os.trans h.os, k.tape.trans h.tape, k.output.trans h.output, Nat.le_trans h.size k.size, fun b i hb => (k.fro b i (Nat.lt_of_lt_of_le hb h.size)).trans (h.fro b i hb), fun b i v hv => by
    obtain ⟨v1, h1, k1⟩ := h.kin b i v hv
    obtain ⟨v2, h2, k2⟩ := k.kin b i v1 h1
    exact ⟨v2, h2, k1.trans k2⟩, fun b hb ho => (k.out b (Nat.lt_of_lt_of_le hb h.size) ho).trans (h.out b hb ho)⟩
theorem Marks.of_below (hb : Below w.heap.size w w1) : Marks lo hi w w1 :=
  ⟨hb.os, hb.tape, hb.output, hb.size, fun b _ h => frozen_same (hb.block b h), fun b i v hv => ⟨v, (hb.cell (p := ⟨b, i, none⟩) (cell_in hv)).trans hv, .inl rfl⟩, fun b h _ => hb.block b h⟩
theorem Marks.step (h : Marks lo hi w w1) (hb : Below w1.heap.size w1 w2) : Marks lo hi w w2 := h.trans (.of_below hb)
theorem Marks.put (h : Marks lo hi w w1) {b i : Nat} {z0 : Int} (hc : w.cell? ⟨b, i, none⟩ = some (.int .i64 z0)) (h1 : lo ≤ b ∧ b < hi) (z : Int) : Marks lo hi w (w1.setCell ⟨b, i, none⟩ (.int .i64 z)) := by
  obtain ⟨v1, hv1, hk1⟩ := h.kin b i _ hc
  refine ⟨h.os, h.tape, h.output, by simpa [World.setCell] using h.size, fun b' i' hb => (World.frozen?_setCell _ _ _ _).trans (h.fro b' i' hb), fun b' i' v hv => ?_, fun b' hb ho => ?_⟩
  · by_cases he : (⟨b, i, none⟩ : Addr) = ⟨b', i', none⟩
    · injection he with e1 e2 _
      subst e1 e2
      rw [hc] at hv
      cases hv
      exact ⟨_, World.cell?_setCell_same _ _ _ hv1, .inr (.inl ⟨z0, z, rfl, rfl⟩)⟩
    · obtain ⟨v', h2, h3⟩ := h.kin b' i' v hv
      exact ⟨v', (World.cell?_setCell_other _ _ _ _ he).trans h2, h3⟩
  · have hne : b' ≠ b := by omega
    exact (Below.heap_setCell w1 ⟨b, i, none⟩ _ b' hne).trans (h.out b' hb ho)
theorem Marks.putS (h : Marks lo hi w w1) {b i : Nat} {s0 : ByteArray} (hc : w.cell? ⟨b, i, none⟩ = some (.string s0)) (h1 : lo ≤ b ∧ b < hi) (s : ByteArray) : Marks lo hi w (w1.setCell ⟨b, i, none⟩ (.string s)) := by
  obtain ⟨v1, hv1, hk1⟩ := h.kin b i _ hc
  refine ⟨h.os, h.tape, h.output, by simpa [World.setCell] using h.size, fun b' i' hb => (World.frozen?_setCell _ _ _ _).trans (h.fro b' i' hb), fun b' i' v hv => ?_, fun b' hb ho => ?_⟩
  · by_cases he : (⟨b, i, none⟩ : Addr) = ⟨b', i', none⟩
    · injection he with e1 e2 _
      subst e1 e2
      rw [hc] at hv
      cases hv
      exact ⟨_, World.cell?_setCell_same _ _ _ hv1, .inr (.inr ⟨s0, s, rfl, rfl⟩)⟩
    · obtain ⟨v', h2, h3⟩ := h.kin b' i' v hv
      exact ⟨v', (World.cell?_setCell_other _ _ _ _ he).trans h2, h3⟩
  · have hne : b' ≠ b := by omega
    exact (Below.heap_setCell w1 ⟨b, i, none⟩ _ b' hne).trans (h.out b' hb ho)
theorem Marks.toBelow {B : Nat} (h : Marks lo hi w w1) (hB : B ≤ lo) (hl : lo ≤ w.heap.size) : Below B w w1 := ⟨h.os, h.tape, h.output, h.size, fun k hk => h.out k (by omega) (.inl (by omega))⟩
theorem Marks.keeps (h : Marks lo hi w w1) : Keeps hi w w1 := ⟨h.size, fun b h1 h2 => h.out b h2 (.inr h1)⟩
theorem Marks.box {g : Nat} {t : TypeId} {cs : Array Value} (h : Marks lo hi w w1) (hb : Box w g t cs) (ho : g < lo ∨ hi ≤ g) : Box w1 g t cs := (h.out g hb.lt ho).trans hb
end

/-- A block that may be marked. -/
def Fr (lo hi : Nat) (w : World) (b : Nat) : Prop := (lo ≤ b ∧ b < hi) ∧ b < w.heap.size ∧ ∀ i, w.frozen? ⟨b, i, none⟩ = false
theorem Fr.marks {lo hi lo2 hi2 b : Nat} {w w' : World} (h : Fr lo hi w b) (m : Marks lo2 hi2 w w') : Fr lo hi w' b := ⟨h.1, Nat.lt_of_lt_of_le h.2.1 m.size, fun i => (m.fro b i h.2.1).trans (h.2.2 i)⟩
theorem Fr.of {lo hi b : Nat} {w : World} (h : Stand lo w b) (hz : 0 < lo) (hh : w.heap.size ≤ hi) : Fr lo hi w b := ⟨⟨h.ge, Nat.lt_of_lt_of_le h.lt hh⟩, h.lt, h.fre hz⟩

def IsI (w : World) (b i : Nat) : Prop := ∃ z, w.cell? ⟨b, i, none⟩ = some (.int .i64 z)
def IsS (w : World) (b i : Nat) : Prop := ∃ s, w.cell? ⟨b, i, none⟩ = some (.string s)
theorem IsI.marks {lo hi b i : Nat} {w w' : World} (h : IsI w b i) (m : Marks lo hi w w') : IsI w' b i := by
  obtain ⟨z, hz⟩ := h
  obtain ⟨v, hv, hk⟩ := m.kin b i _ hz
  obtain ⟨z', rfl⟩ := hk.int
  exact ⟨z', hv⟩
theorem IsS.marks {lo hi b i : Nat} {w w' : World} (h : IsS w b i) (m : Marks lo hi w w') : IsS w' b i := by
  obtain ⟨z, hz⟩ := h
  obtain ⟨v, hv, hk⟩ := m.kin b i _ hz
  obtain ⟨z', rfl⟩ := hk.str
  exact ⟨z', hv⟩
theorem sl_marks {lo hi b i : Nat} {w w' : World} {A : Option Addr} {n c : Nat} (h : w.cell? ⟨b, i, none⟩ = some (.slice A n c)) (m : Marks lo hi w w') : w'.cell? ⟨b, i, none⟩ = some (.slice A n c) := by
  obtain ⟨v, hv, hk⟩ := m.kin b i _ h
  rw [hv, hk.sl]

/-- Lists that may be marked. -/
def ShI (lo hi : Nat) (w : World) (A : Option Addr) (n : Nat) : Prop := 0 < n → ∃ b off, A = some ⟨b, off, none⟩ ∧ Fr lo hi w b ∧ ∀ j, j < n → IsI w b (off + j)
def ShC (lo hi : Nat) (w : World) (A : Option Addr) (n : Nat) : Prop := 0 < n → ∃ b off, A = some ⟨b, off, none⟩ ∧ Fr lo hi w b ∧ ∀ j, j < n → IsI w b (off + j * 2) ∧ IsI w b (off + j * 2 + 1)
def ShV (lo hi : Nat) (w : World) (A : Option Addr) (n : Nat) : Prop := 0 < n → ∃ b off, A = some ⟨b, off, none⟩ ∧ Fr lo hi w b ∧ ∀ j, j < n → IsS w b (off + j * 2) ∧ IsI w b (off + j * 2 + 1)
def ShX (lo hi : Nat) (w : World) (A : Option Addr) (n : Nat) : Prop := 0 < n → ∃ b off, A = some ⟨b, off, none⟩ ∧ Fr lo hi w b ∧ ∀ j, j < n → IsI w b (off + j * 4) ∧ IsI w b (off + j * 4 + 1) ∧ IsI w b (off + j * 4 + 2) ∧ IsI w b (off + j * 4 + 3)
def ShP (lo hi : Nat) (w : World) (A : Option Addr) (n : Nat) (pl : Nat → Nat) : Prop := 0 < n → ∃ b off, A = some ⟨b, off, none⟩ ∧ Fr lo hi w b ∧ ∀ j, j < n → IsS w b (off + j * 2) ∧ ∃ A1 c1, w.cell? ⟨b, off + j * 2 + 1, none⟩ = some (.slice A1 (pl j) c1) ∧ ShI lo hi w A1 (pl j)
def ShS (lo hi : Nat) (w : World) (A : Option Addr) (n : Nat) (st : Nat → Stm) : Prop := 0 < n → ∃ b off, A = some ⟨b, off, none⟩ ∧ Fr lo hi w b ∧ ∀ j, j < n → IsI w b (off + j * 8) ∧ IsI w b (off + j * 8 + 1) ∧ IsI w b (off + j * 8 + 2) ∧ IsI w b (off + j * 8 + 6) ∧ IsI w b (off + j * 8 + 7) ∧
  ∃ A3 c3 A4 c4 A5 c5, w.cell? ⟨b, off + j * 8 + 3, none⟩ = some (.slice A3 (st j).nc c3) ∧ w.cell? ⟨b, off + j * 8 + 4, none⟩ = some (.slice A4 (st j).nt c4) ∧ w.cell? ⟨b, off + j * 8 + 5, none⟩ = some (.slice A5 (st j).ne c5) ∧ ShC lo hi w A3 (st j).nc ∧ ShI lo hi w A4 (st j).nt ∧ ShI lo hi w A5 (st j).ne

section
variable {lo hi n : Nat} {w w' : World} {A : Option Addr}
theorem ShI.marks {lo2 hi2 : Nat} (h : ShI lo hi w A n) (m : Marks lo2 hi2 w w') : ShI lo hi w' A n := fun h0 => by
  obtain ⟨b, off, rfl, hf, hc⟩ := h h0
  exact ⟨b, off, rfl, hf.marks m, fun j hj => (hc j hj).marks m⟩
theorem ShC.marks (h : ShC lo hi w A n) (m : Marks lo hi w w') : ShC lo hi w' A n := fun h0 => by
  obtain ⟨b, off, rfl, hf, hc⟩ := h h0
  exact ⟨b, off, rfl, hf.marks m, fun j hj => ⟨(hc j hj).1.marks m, (hc j hj).2.marks m⟩⟩
theorem ShV.marks (h : ShV lo hi w A n) (m : Marks lo hi w w') : ShV lo hi w' A n := fun h0 => by
  obtain ⟨b, off, rfl, hf, hc⟩ := h h0
  exact ⟨b, off, rfl, hf.marks m, fun j hj => ⟨(hc j hj).1.marks m, (hc j hj).2.marks m⟩⟩
theorem ShX.marks (h : ShX lo hi w A n) (m : Marks lo hi w w') : ShX lo hi w' A n := fun h0 => by
  obtain ⟨b, off, rfl, hf, hc⟩ := h h0
  exact ⟨b, off, rfl, hf.marks m, fun j hj => ⟨(hc j hj).1.marks m, (hc j hj).2.1.marks m, (hc j hj).2.2.1.marks m, (hc j hj).2.2.2.marks m⟩⟩
theorem ShP.marks {pl : Nat → Nat} (h : ShP lo hi w A n pl) (m : Marks lo hi w w') : ShP lo hi w' A n pl := fun h0 => by
  obtain ⟨b, off, rfl, hf, hc⟩ := h h0
  refine ⟨b, off, rfl, hf.marks m, fun j hj => ?_⟩
  obtain ⟨h1, A1, c1, h2, h3⟩ := hc j hj
  exact ⟨h1.marks m, A1, c1, sl_marks h2 m, h3.marks m⟩
theorem ShS.marks {st : Nat → Stm} (h : ShS lo hi w A n st) (m : Marks lo hi w w') : ShS lo hi w' A n st := fun h0 => by
  obtain ⟨b, off, rfl, hf, hc⟩ := h h0
  refine ⟨b, off, rfl, hf.marks m, fun j hj => ?_⟩
  obtain ⟨h0, h1, h2, h6, h7, A3, c3, A4, c4, A5, c5, h3, h4, h5, g3, g4, g5⟩ := hc j hj
  exact ⟨h0.marks m, h1.marks m, h2.marks m, h6.marks m, h7.marks m, A3, c3, A4, c4, A5, c5, sl_marks h3 m, sl_marks h4 m, sl_marks h5 m, g3.marks m, g4.marks m, g5.marks m⟩

theorem IntsAt.sh {f : Nat → Int} (h : IntsAt lo w A n f) (hz : 0 < lo) (hh : w.heap.size ≤ hi) : ShI lo hi w A n := fun h0 => by
  obtain ⟨b, off, rfl, hs, hc⟩ := h h0
  exact ⟨b, off, rfl, .of hs hz hh, fun j hj => ⟨_, hc j hj⟩⟩
theorem ChAt.sh {ch : Nat → Int × Int} (h : ChAt lo w A n ch) (hz : 0 < lo) (hh : w.heap.size ≤ hi) : ShC lo hi w A n := fun h0 => by
  obtain ⟨b, off, rfl, hs, hc⟩ := h h0
  refine ⟨b, off, rfl, .of hs hz hh, fun j hj => ?_⟩
  obtain ⟨C, ⟨e0, e1⟩, hk⟩ := hc j hj
  exact ⟨⟨_, (hk 0 (by omega)).trans (by rw [e0])⟩, ⟨_, (hk 1 (by omega)).trans (by rw [e1])⟩⟩
theorem VrAt.sh {vn : Nat → ByteArray} {vz : Nat → Int} (h : VrAt lo w A n vn vz) (hz : 0 < lo) (hh : w.heap.size ≤ hi) : ShV lo hi w A n := fun h0 => by
  obtain ⟨b, off, rfl, hs, hc⟩ := h h0
  refine ⟨b, off, rfl, .of hs hz hh, fun j hj => ?_⟩
  obtain ⟨C, ⟨e0, e1⟩, hk⟩ := hc j hj
  exact ⟨⟨_, (hk 0 (by omega)).trans (by rw [e0])⟩, ⟨_, (hk 1 (by omega)).trans (by rw [e1])⟩⟩
theorem ExL.sh {F : Nat → Nat → Int} (h : ExL lo w A n F) (hz : 0 < lo) (hh : w.heap.size ≤ hi) : ShX lo hi w A n := fun h0 => by
  obtain ⟨b, off, rfl, hs, hc⟩ := h.1 h0
  exact ⟨b, off, rfl, .of (h.2 h0 b off rfl) hz hh, fun j hj => ⟨⟨_, hc j hj 0 (by omega)⟩, ⟨_, hc j hj 1 (by omega)⟩, ⟨_, hc j hj 2 (by omega)⟩, ⟨_, hc j hj 3 (by omega)⟩⟩⟩
theorem PrAt.sh {pn : Nat → ByteArray} {pl : Nat → Nat} {pb : Nat → Nat → Int} (h : PrAt lo w A n pn pl pb) (hz : 0 < lo) (hh : w.heap.size ≤ hi) : ShP lo hi w A n pl := fun h0 => by
  obtain ⟨b, off, rfl, hs, hc⟩ := h h0
  refine ⟨b, off, rfl, .of hs hz hh, fun j hj => ?_⟩
  obtain ⟨C, ⟨e0, A1, c1, e1, g⟩, hk⟩ := hc j hj
  exact ⟨⟨_, (hk 0 (by omega)).trans (by rw [e0])⟩, A1, c1, (hk 1 (by omega)).trans (by rw [e1]), g.sh hz hh⟩
theorem StAt.sh {st : Nat → Stm} (h : StAt lo w A n st) (hz : 0 < lo) (hh : w.heap.size ≤ hi) : ShS lo hi w A n st := fun h0 => by
  obtain ⟨b, off, rfl, hs, hc⟩ := h h0
  refine ⟨b, off, rfl, .of hs hz hh, fun j hj => ?_⟩
  obtain ⟨C, ⟨e0, e1, e2, ⟨A3, c3, e3, g3⟩, ⟨A4, c4, e4, g4⟩, ⟨A5, c5, e5, g5⟩, e6, e7⟩, hk⟩ := hc j hj
  exact ⟨⟨_, (hk 0 (by omega)).trans (by rw [e0])⟩, ⟨_, (hk 1 (by omega)).trans (by rw [e1])⟩, ⟨_, (hk 2 (by omega)).trans (by rw [e2])⟩, ⟨_, (hk 6 (by omega)).trans (by rw [e6])⟩, ⟨_, (hk 7 (by omega)).trans (by rw [e7])⟩,
    A3, c3, A4, c4, A5, c5, (hk 3 (by omega)).trans (by rw [e3]), (hk 4 (by omega)).trans (by rw [e4]), (hk 5 (by omega)).trans (by rw [e5]), g3.sh hz hh, g4.sh hz hh, g5.sh hz hh⟩
end

/-- A program's lists that may be marked. -/
structure ShG (lo hi : Nat) (w : World) (Av Ax As Ap Ab : Option Addr) (P : Prg) : Prop where
  v : ShV lo hi w Av P.nv
  x : ShX lo hi w Ax P.nx
  s : ShS lo hi w As P.ns P.st
  p : ShP lo hi w Ap P.np P.pl
  b : ShI lo hi w Ab P.nb
theorem ShG.marks {lo hi : Nat} {w w' : World} {Av Ax As Ap Ab : Option Addr} {P : Prg} (h : ShG lo hi w Av Ax As Ap Ab P) (m : Marks lo hi w w') : ShG lo hi w' Av Ax As Ap Ab P := ⟨h.v.marks m, h.x.marks m, h.s.marks m, h.p.marks m, h.b.marks m⟩
theorem PgAt.sh {lo hi : Nat} {w : World} {Av Ax As Ap Ab : Option Addr} {P : Prg} (h : PgAt lo w Av Ax As Ap Ab P) (hz : 0 < lo) (hh : w.heap.size ≤ hi) : ShG lo hi w Av Ax As Ap Ab P := ⟨h.v.sh hz hh, h.x.sh hz hh, h.s.sh hz hh, h.p.sh hz hh, h.b.sh hz hh⟩

end Go.Proofs.Ytamjfcckgeakfaa
