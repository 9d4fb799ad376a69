/-
  Rows of words that are written in place: what a block's cells read as from an offset on, and that a call has written to nothing but a stretch of one block. Facts over the library alone; no function of the program is walked here.
-/
import Derived.Test.YtdjldhkmcmbiiaaDoorTrimW
namespace Go.Proofs.YtdjldhkmcmbiiaaDoor
open Go.RowKit Num

/-- Block g of the world w, of element type t, none of it frozen, holds the words xs from cell off on. -/
def RowW (t : TypeId) (w : World) (g off : Nat) (xs : List Nat) : Prop :=
  ∃ cs : Array Value, Box w g t cs ∧ ∀ j, j < xs.length → cs[off + j]? = some (.int .u64 (xs.getD j 0 : Nat))

/-- From w to w' nothing has turned but the cells lo .. hi-1 of block g; no block has come or gone. -/
structure Wrote (g lo hi : Nat) (w w' : World) : Prop where
  os : w'.os = w.os
  tape : w'.tape = w.tape
  output : w'.output = w.output
  size : w'.heap.size = w.heap.size
  block : ∀ k, k ≠ g → w'.heap[k]? = w.heap[k]?
  box : ∀ t cs, Box w g t cs → ∃ cs', Box w' g t cs' ∧ cs'.size = cs.size ∧ ∀ i, (i < lo ∨ hi ≤ i) → cs'[i]? = cs[i]?

section
variable {t : TypeId} {w w' w'' : World} {g off lo hi : Nat} {xs : List Nat}

theorem Wrote.refl (g lo hi : Nat) (w : World) : Wrote g lo hi w w := ⟨rfl, rfl, rfl, rfl, fun _ _ => rfl, fun _ cs h => ⟨cs, h, rfl, fun _ _ => rfl⟩⟩
theorem Wrote.trans (h : Wrote g lo hi w w') (k : Wrote g lo hi w' w'') : Wrote g lo hi w w'' :=
  ⟨k.os.trans h.os, k.tape.trans h.tape, k.output.trans h.output, k.size.trans h.size, fun i hi => (k.block i hi).trans (h.block i hi), fun t cs hb => by
    obtain ⟨c1, h1, h2, h3⟩ := h.box t cs hb
    obtain ⟨c2, k1, k2, k3⟩ := k.box t c1 h1
    exact ⟨c2, k1, k2.trans h2, fun i hi => (k3 i hi).trans (h3 i hi)⟩⟩
theorem Wrote.wide {lo' hi' : Nat} (h : Wrote g lo hi w w') (h1 : lo' ≤ lo) (h2 : hi ≤ hi') : Wrote g lo' hi' w w' :=
  ⟨h.os, h.tape, h.output, h.size, h.block, fun t cs hb => by
    obtain ⟨c1, k1, k2, k3⟩ := h.box t cs hb
    exact ⟨c1, k1, k2, fun i hi => k3 i (by omega)⟩⟩
theorem Wrote.drew (h : Wrote g lo hi w w') : Wrote g lo hi w w'.drew := ⟨h.os, h.tape, h.output, h.size, h.block, h.box⟩
theorem Wrote.drewN (n : Nat) (h : Wrote g lo hi w w') : Wrote g lo hi w (w'.drewN n) := ⟨h.os, h.tape, h.output, h.size, h.block, h.box⟩
theorem Wrote.setCell (h : Wrote g lo hi w w') {i : Nat} (h1 : lo ≤ i) (h2 : i < hi) (u : Value) : Wrote g lo hi w (w'.setCell ⟨g, i, none⟩ u) :=
  h.trans ⟨rfl, rfl, rfl, by simp [World.setCell], fun k hk => Below.heap_setCell _ _ _ _ hk, fun t cs hb => ⟨_, hb.set i u, by simp, fun j hj => by
    rw [Array.getElem?_setIfInBounds, if_neg (by omega)]⟩⟩
theorem Wrote.below {B : Nat} (h : Wrote g lo hi w w') (hB : B ≤ g) : Below B w w' := ⟨h.os, h.tape, h.output, Nat.le_of_eq h.size.symm, fun k hk => h.block k (by omega)⟩
theorem Wrote.cell (h : Wrote g lo hi w w') {k i : Nat} (hk : k ≠ g) : w'.cell? ⟨k, i, none⟩ = w.cell? ⟨k, i, none⟩ := World.cell?_of_block (w := w) (h.block k hk)

theorem RowW.cell (h : RowW t w g off xs) {j : Nat} (hj : j < xs.length) : w.cell? ⟨g, off + j, none⟩ = some (.int .u64 (xs.getD j 0 : Nat)) := by
  obtain ⟨cs, hb, hc⟩ := h
  rw [hb.cell, hc j hj]
theorem RowW.free (h : RowW t w g off xs) (i : Nat) : w.frozen? ⟨g, i, none⟩ = false := by
  obtain ⟨cs, hb, _⟩ := h
  exact hb.free i
theorem RowW.lt (h : RowW t w g off xs) : g < w.heap.size := by
  obtain ⟨cs, hb, _⟩ := h
  exact hb.lt
theorem RowW.drew (h : RowW t w g off xs) : RowW t w.drew g off xs := h
theorem RowW.drewN (n : Nat) (h : RowW t w g off xs) : RowW t (w.drewN n) g off xs := h
theorem RowW.set (h : RowW t w g off xs) (j : Nat) (hj : j < xs.length) (y : Nat) : RowW t (w.setCell ⟨g, off + j, none⟩ (.int .u64 (y : Nat))) g off (xs.set j y) := by
  obtain ⟨cs, hb, hc⟩ := h
  refine ⟨_, hb.set (off + j) _, fun i hi => ?_⟩
  rw [List.length_set] at hi
  have hl : off + j < cs.size := by
    have := hc j hj
    exact (Array.getElem?_eq_some_iff.1 this).1
  by_cases hij : i = j
  · subst hij
    rw [Array.getElem?_setIfInBounds, if_pos rfl, if_pos hl]
    simp [List.getD, hj]
  · rw [Array.getElem?_setIfInBounds, if_neg (by omega), hc i hi]
    simp [List.getD, show ¬ j = i from fun e => hij e.symm]
theorem RowW.wrote {g' : Nat} (h : RowW t w g off xs) (hw : Wrote g' lo hi w w') (hne : g ≠ g') : RowW t w' g off xs := by
  obtain ⟨cs, hb, hc⟩ := h
  exact ⟨cs, (hw.block g hne).trans hb, hc⟩
theorem RowW.below {B : Nat} (h : RowW t w g off xs) (hb : Below B w w') (hg : g < B) : RowW t w' g off xs := by
  obtain ⟨cs, hx, hc⟩ := h
  exact ⟨cs, hx.below hb hg, hc⟩
theorem RowW.part (h : RowW t w g off xs) (i n : Nat) (hn : i + n ≤ xs.length) : RowW t w g (off + i) ((xs.drop i).take n) := by
  obtain ⟨cs, hb, hc⟩ := h
  refine ⟨cs, hb, fun j hj => ?_⟩
  have hj' : j < n := by simp at hj; omega
  rw [Nat.add_assoc, hc (i + j) (by omega)]
  simp [List.getD, hj']
/-- A stretch of the row written anew. -/
theorem RowW.patch (h : RowW t w g off xs) {i : Nat} {ys : List Nat} (hn : i + ys.length ≤ xs.length) (hw : Wrote g (off + i) (off + i + ys.length) w w') (hy : RowW t w' g (off + i) ys) : RowW t w' g off (xs.take i ++ ys ++ xs.drop (i + ys.length)) := by
  obtain ⟨cs, hb, hc⟩ := h
  obtain ⟨cs', hb', hs, hk⟩ := hw.box t cs hb
  obtain ⟨cy, hby, hcy⟩ := hy
  obtain rfl : cs' = cy := by
    unfold Box at hb' hby
    rw [hb'] at hby
    injection hby with hby
    injection hby
  refine ⟨cs', hb', fun j hj => ?_⟩
  have hj' : j < xs.length := by simp at hj; omega
  rcases Nat.lt_or_ge j i with h1 | h1
  · rw [hk _ (by omega), hc j hj']
    congr 3
    rw [List.getD_eq_getElem?_getD, List.getD_eq_getElem?_getD, List.append_assoc, List.getElem?_append_left (by simp; omega), List.getElem?_take, if_pos h1]
  · rcases Nat.lt_or_ge j (i + ys.length) with h2 | h2
    · have := hcy (j - i) (by omega)
      rw [show off + i + (j - i) = off + j from by omega] at this
      rw [this]
      congr 3
      rw [List.getD_eq_getElem?_getD, List.getD_eq_getElem?_getD, List.append_assoc, List.getElem?_append_right (by simp; omega), List.getElem?_append_left (by simp; omega)]
      simp [show min i xs.length = i from by omega]
    · rw [hk _ (by omega), hc j hj']
      congr 3
      rw [List.getD_eq_getElem?_getD, List.getD_eq_getElem?_getD, List.append_assoc, List.getElem?_append_right (by simp; omega), List.getElem?_append_right (by simp; omega)]
      simp [show min i xs.length = i from by omega]
      congr 2
      omega

theorem RowW.rowF (h : RowW t w g off xs) {cap : Nat} (h1 : xs.length ≤ cap) (h2 : cap ≤ maxLen) : RowF t .u64 w (.slice (some ⟨g, off, none⟩) xs.length cap) xs.length fun j => xs.getD j 0 := by
  obtain ⟨cs, hb, hc⟩ := h
  exact .inr ⟨g, off, cap, rfl, h1, h2, ⟨cs, hb⟩, fun j hj => by rw [hb.cell, hc j hj]⟩

theorem RowF.rowW {n cap : Nat} {d : Nat → Nat} (h : RowF t .u64 w (.slice (some ⟨g, off, none⟩) n cap) n d) (hd : ∀ j, j < n → d j = xs.getD j 0) (hl : xs.length = n) : RowW t w g off xs := by
  rcases h with ⟨h, _⟩ | ⟨b, o, c, h0, h1, h2, ⟨cs, h3⟩, h4⟩
  · cases h
  · injection h0 with h0 _ h5
    injection h0 with h0
    injection h0 with h6 h7
    subst h6 h7 h5
    refine ⟨cs, h3, fun j hj => ?_⟩
    rw [← Box.cell (w := w) (t := t) h3, h4 j (by omega), hd j (by omega)]

theorem RowW.far (h : RowW t w g off xs) {p : Addr} (hp : g ≠ p.block) (u : Value) : RowW t (w.setCell p u) g off xs := by
  obtain ⟨cs, hb, hc⟩ := h
  exact ⟨cs, (Below.heap_setCell w p u g hp).trans hb, hc⟩

/-- A number in another block reads on. -/
theorem RowF.wrote {t' : TypeId} {k : IntKind} {v : Value} {n : Nat} {d : Nat → Nat} (h : RowF t' k w v n d) (hw : Wrote g lo hi w w') (hne : v.ownBlock ≠ some g) : RowF t' k w' v n d := by
  rcases h with h | ⟨b, off, cap, rfl, h1, h2, ⟨cs, h3⟩, h4⟩
  · exact .inl h
  · have hb : b ≠ g := fun e => hne (by rw [e]; rfl)
    exact .inr ⟨b, off, cap, rfl, h1, h2, ⟨cs, (hw.block b hb).trans h3⟩, fun j hj => by rw [hw.cell hb]; exact h4 j hj⟩
theorem Nums.wrote {t' : TypeId} {k : IntKind} {b x : Nat} {v : Value} (h : Nums t' k b w v x) (hw : Wrote g lo hi w w') (hne : v.ownBlock ≠ some g) : Nums t' k b w' v x := RowF.wrote h hw hne

/-- A number that is not 0 lies in some block. -/
theorem Nums.row {b x : Nat} {v : Value} (h : Nums t .u64 b w v x) (hp : 0 < ln b x) : ∃ g off cap, v = .slice (some ⟨g, off, none⟩) (ln b x) cap ∧ ln b x ≤ cap ∧ cap ≤ maxLen ∧ RowW t w g off (digs b x) := by
  rcases h with ⟨_, h0⟩ | ⟨g, off, cap, rfl, h1, h2, ⟨cs, h3⟩, h4⟩
  · omega
  · exact ⟨g, off, cap, rfl, h1, h2, cs, h3, fun j hj => by rw [← Box.cell (w := w) (t := t) h3]; exact h4 j hj⟩
theorem RowF.get {t' : TypeId} {k : IntKind} {A : Option Addr} {n c : Nat} {d : Nat → Nat} (h : RowF t' k w (.slice A n c) n d) {j : Nat} (hj : j < n) : ∃ b off, A = some ⟨b, off, none⟩ ∧ w.cell? ⟨b, off + j, none⟩ = some (.int k (d j : Nat)) := by
  rcases h with ⟨_, h0⟩ | ⟨b, off, cap, h0, h1, h2, h3, h4⟩
  · omega
  · injection h0 with h0
    exact ⟨b, off, h0, h4 j hj⟩
theorem Nums.get {t' : TypeId} {k : IntKind} {A : Option Addr} {b x n c : Nat} (h : Nums t' k b w (.slice A n c) x) (hn : n = ln b x) {j : Nat} (hj : j < n) : ∃ g off, A = some ⟨g, off, none⟩ ∧ w.cell? ⟨g, off + j, none⟩ = some (.int k (dg b x j : Nat)) := by
  subst hn
  exact RowF.get h hj
end

end Go.Proofs.YtdjldhkmcmbiiaaDoor
