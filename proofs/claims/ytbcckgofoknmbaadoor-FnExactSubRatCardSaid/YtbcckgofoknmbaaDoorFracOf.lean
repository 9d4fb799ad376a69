/-
  The program's reading of a Rat: validity, and the fraction.
-/
import Derived.Test.YtbcckgofoknmbaaDoorPBlock
import Derived.Test.YtbcckgofoknmbaaDoorGcdN
import Derived.Test.YtbcckgofoknmbaaDoorPFr
namespace Go.Proofs.YtbcckgofoknmbaaDoor
open Go.RowKit Num

/-- The package-level block that holds one. -/
def UnitB (w : World) : Prop := ∃ t fr, w.heap[0]? = some (.cells #[.int .u64 1, .int .u64 0, .int .u64 0, .int .u64 0, .int .u64 0, .int .u64 0, .int .u64 0] t fr)
theorem UnitB.lt {w : World} (h : UnitB w) : 0 < w.heap.size := by
  obtain ⟨t, fr, h⟩ := h
  exact (Array.getElem?_eq_some_iff.1 h).1
theorem UnitB.cell {w : World} (h : UnitB w) (i : Nat) : w.cell? ⟨0, i, none⟩ = #[Value.int .u64 1, .int .u64 0, .int .u64 0, .int .u64 0, .int .u64 0, .int .u64 0, .int .u64 0][i]? := by
  obtain ⟨t, fr, h⟩ := h
  exact cell_of_row w _ i _ t fr h
theorem UnitB.seven {w : World} (h : UnitB w) : w.cell? ⟨0, 0, none⟩ = some (.int .u64 1) ∧ w.cell? ⟨0, 1, none⟩ = some (.int .u64 0) ∧ w.cell? ⟨0, 2, none⟩ = some (.int .u64 0) ∧ w.cell? ⟨0, 3, none⟩ = some (.int .u64 0) ∧ w.cell? ⟨0, 4, none⟩ = some (.int .u64 0) ∧ w.cell? ⟨0, 5, none⟩ = some (.int .u64 0) ∧ w.cell? ⟨0, 6, none⟩ = some (.int .u64 0) :=
  ⟨h.cell 0, h.cell 1, h.cell 2, h.cell 3, h.cell 4, h.cell 5, h.cell 6⟩

theorem numBlock_any (s : ByteArray) (w : World) (hs : s.size ≤ 9223372036854775807) :
    Calls Tryd.prog 36 #[.string s] w fun e w' => (∃ l0 l1 l2 l3 l4 l5 l6, e = .returned (.tuple #[blk l0 l1 l2 l3 l4 l5 l6, .bool (isNum s)]) ∧ Dig WB [l0, l1, l2, l3, l4, l5, l6] ∧ (isNum s = true → val WB [l0, l1, l2, l3, l4, l5, l6] = numOf s)) ∧ Below w.heap.size w w' := by
  cases h : isNum s with
  | true =>
    refine (numBlock_yes s w h hs).mono ?_
    rintro e w' ⟨⟨l0, l1, l2, l3, l4, l5, l6, he, hd, hv⟩, hb⟩
    exact ⟨⟨l0, l1, l2, l3, l4, l5, l6, he, hd, fun _ => hv⟩, hb⟩
  | false =>
    refine (numBlock_no s w h hs).mono ?_
    rintro e w' ⟨he, hb⟩
    exact ⟨⟨0, 0, 0, 0, 0, 0, 0, he, by intro x hx; simp at hx; rw [hx]; unfold WB; omega, fun h => by cases h⟩, hb⟩

/-- A Rat that is valid: two numerals in lowest terms, the second not 0, zero as 0/1 without a sign. -/
def validR (b : Bool) (x y : ByteArray) : Bool := isNum x && isNum y && decide (numOf y ≠ 0) && decide (numOf x = 0 → b = false ∧ numOf y = 1) && decide (Nat.gcd (numOf x) (numOf y) = 1)

/-- What is handed back where there is no fraction. -/
def noFrac : Value := .tuple #[.agg #[.bool false, .slice none 0 0, .slice none 0 0], .bool false]

set_option maxRecDepth 100000 in
set_option maxHeartbeats 1600000 in
theorem fracOf_early (b : Bool) (x y : ByteArray) (w : World) (hx : x.size ≤ 9223372036854775807) (hy : y.size ≤ 9223372036854775807) (h : isNum x = false ∨ isNum y = false) :
    Calls Tryd.prog 26 #[.agg #[.bool b, .string x, .string y]] w fun e w' => e = .returned noFrac ∧ Below w.heap.size w w' := by
  have C1 : Hid (∀ W, _) := Lib.hid fun W => numBlock_any x W hx
  have C2 : Hid (∀ W, _) := Lib.hid fun W => numBlock_any y W hy
  have hR0 := Box.new w 25 #[.bool b, .string x, .string y]
  have HR0 := Lib.hid (hR0.alloc (.cells #[.bool false, .slice none 0 0, .slice none 0 0] 43))
  have hF0 := Box.new (w.alloc (.cells #[.bool b, .string x, .string y] 25)) 43 #[.bool false, .slice none 0 0, .slice none 0 0]
  rw [show (w.alloc (.cells #[.bool b, .string x, .string y] 25)).heap.size = w.heap.size + 1 from by simp] at hF0
  have HF0 := Lib.hid hF0
  have hB0 := ((Below.refl w.heap.size w).alloc (Nat.le_refl _) (.cells #[.bool b, .string x, .string y] 25)).alloc (by simp) (.cells #[.bool false, .slice none 0 0, .slice none 0 0] 43)
  have HB0 := Lib.hid hB0
  clear hR0 hF0 hB0 hx hy
  go_enter Tryd.func26, Tryd.ntmps26
  go_wp2_with fail
  refine (C1.out _).mono ?_
  rintro e w1 ⟨⟨a0, a1, a2, a3, a4, a5, a6, rfl, hda, hva⟩, hb1⟩
  have hR1 := HR0.out.below hb1 HR0.out.lt
  have hF1 := HF0.out.below hb1 HF0.out.lt
  have hB1 := HB0.out.trans (hb1.mono HB0.out.size)
  unfold blk
  have hN1 := Box.new w1 66 #[.int .u64 (a0 : Nat), .int .u64 (a1 : Nat), .int .u64 (a2 : Nat), .int .u64 (a3 : Nat), .int .u64 (a4 : Nat), .int .u64 (a5 : Nat), .int .u64 (a6 : Nat)]
  have hR2 := hR1.alloc (.cells #[.int .u64 (a0 : Nat), .int .u64 (a1 : Nat), .int .u64 (a2 : Nat), .int .u64 (a3 : Nat), .int .u64 (a4 : Nat), .int .u64 (a5 : Nat), .int .u64 (a6 : Nat)] 66)
  have hF2 := hF1.alloc (.cells #[.int .u64 (a0 : Nat), .int .u64 (a1 : Nat), .int .u64 (a2 : Nat), .int .u64 (a3 : Nat), .int .u64 (a4 : Nat), .int .u64 (a5 : Nat), .int .u64 (a6 : Nat)] 66)
  have hB2 := hB1.alloc hB1.size (.cells #[.int .u64 (a0 : Nat), .int .u64 (a1 : Nat), .int .u64 (a2 : Nat), .int .u64 (a3 : Nat), .int .u64 (a4 : Nat), .int .u64 (a5 : Nat), .int .u64 (a6 : Nat)] 66)
  obtain ⟨r0, r1, r2, _, _, _⟩ := hR2.three
  have HR2 := Lib.hid hR2
  have HF2 := Lib.hid hF2
  have HB2 := Lib.hid hB2
  clear hR1 hF1 hB1 hR2 hF2 hB2 hN1 hb1 hda hva
  go_wp2_with fail
  refine (C2.out _).mono ?_
  rintro e w2 ⟨⟨c0, c1, c2, c3, c4, c5, c6, rfl, hdc, hvc⟩, hb2⟩
  have hF3 := HF2.out.below hb2 HF2.out.lt
  have hB3 := HB2.out.trans (hb2.mono HB2.out.size)
  unfold blk
  have hF4 := hF3.alloc (.cells #[.int .u64 (c0 : Nat), .int .u64 (c1 : Nat), .int .u64 (c2 : Nat), .int .u64 (c3 : Nat), .int .u64 (c4 : Nat), .int .u64 (c5 : Nat), .int .u64 (c6 : Nat)] 66)
  have hB4 := hB3.alloc hB3.size (.cells #[.int .u64 (c0 : Nat), .int .u64 (c1 : Nat), .int .u64 (c2 : Nat), .int .u64 (c3 : Nat), .int .u64 (c4 : Nat), .int .u64 (c5 : Nat), .int .u64 (c6 : Nat)] 66)
  obtain ⟨s0, s1, s2, f0, f1, f2⟩ := hF4.three
  have HF4 := Lib.hid hF4
  have HB4 := Lib.hid hB4
  clear hF3 hB3 hF4 hB4 hb2 hdc hvc
  have hfin : ∀ W : World, Box W (w.heap.size + 1) 43 #[.bool false, .slice none 0 0, .slice none 0 0] → Below w.heap.size w W → Below w.heap.size w (((W.setCell ⟨w.heap.size + 1, 0, none⟩ (.bool false)).setCell ⟨w.heap.size + 1, 1, none⟩ (.slice none 0 0)).setCell ⟨w.heap.size + 1, 2, none⟩ (.slice none 0 0)) := fun W h1 h2 => below_put3 h2 (Nat.le_succ _) _ _ _
  have Hfin := Lib.hid hfin
  clear hfin
  rcases h with h | h
  · rw [h]
    go_wp2_with fail
    obtain ⟨k0, k1, k2⟩ := HF4.out.put3 (.bool false) (.slice none 0 0) (.slice none 0 0)
    exact bodyPost_ret (v := noFrac) (by simp [results, Tryd.results26, go_sem, k0, k1, k2, noFrac]; done) rfl ⟨rfl, Hfin.out _ HF4.out HB4.out⟩
  · rw [h]
    cases isNum x with
    | false =>
      go_wp2_with fail
      obtain ⟨k0, k1, k2⟩ := HF4.out.put3 (.bool false) (.slice none 0 0) (.slice none 0 0)
      exact bodyPost_ret (v := noFrac) (by simp [results, Tryd.results26, go_sem, k0, k1, k2, noFrac]; done) rfl ⟨rfl, Hfin.out _ HF4.out HB4.out⟩
    | true =>
      go_wp2_with fail
      obtain ⟨k0, k1, k2⟩ := HF4.out.put3 (.bool false) (.slice none 0 0) (.slice none 0 0)
      exact bodyPost_ret (v := noFrac) (by simp [results, Tryd.results26, go_sem, k0, k1, k2, noFrac]; done) rfl ⟨rfl, Hfin.out _ HF4.out HB4.out⟩

theorem UnitB.below {w w' : World} (h : UnitB w) (hb : Below w.heap.size w w') : UnitB w' := by
  have hl := h.lt
  obtain ⟨t, fr, h⟩ := h
  exact ⟨t, fr, (hb.block _ hl).trans h⟩

/-- What the reading of a Rat hands back. -/
def FracPost (w : World) (b : Bool) (n d : Nat) (r : Bool) (e : Ending) (w' : World) : Prop :=
  (if r = true then ∃ vn vd, e = .returned (.tuple #[.agg #[.bool b, vn, vd], .bool true]) ∧ Nums 64 .u64 WB w' vn n ∧ Nums 64 .u64 WB w' vd d else e = .returned noFrac) ∧ Below w.heap.size w w'

end Go.Proofs.YtbcckgofoknmbaaDoor
