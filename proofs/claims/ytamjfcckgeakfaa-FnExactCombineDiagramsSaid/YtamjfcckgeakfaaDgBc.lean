/-
  Decision diagrams, plain mathematics: the states of the program's combination.
-/
import Derived.Test.YtamjfcckgeakfaaDgBr
import Derived.Test.YtamjfcckgeakfaaDgJ
namespace Go.Proofs.Ytamjfcckgeakfaa
open Go.RowKit Num
namespace Dg

section
variable {L : Nat} {N : List Nd} (hs : Shp L N)
include hs

theorem evT_at {r l : Nat} (hr : r < N.length + 2) (j : Nat) : evT N L r j = evT N L (ch N r l (decide (j / 2 ^ (L - 1 - l) % 2 = 1))) j := by
  by_cases h : r < 2 ∨ (nd N r).1 ≠ l
  · unfold ch; rw [if_pos h]
  · have e : (nd N r).1 = l := by omega
    subst e
    exact evT_ch hs (by omega) hr

theorem ch_past {r l : Nat} (hr : r < N.length + 2) (hl : l < L) (hu : l ≤ lvl N L r) (b : Bool) : l < lvl N L (ch N r l b) := by
  by_cases h : r < 2 ∨ (nd N r).1 ≠ l
  · have e : ch N r l b = r := by unfold ch; rw [if_pos h]
    rw [e]
    unfold lvl at hu ⊢
    by_cases h2 : r < 2
    · rw [if_pos h2]; exact hl
    · rw [if_neg h2] at hu ⊢; omega
  · have e : (nd N r).1 = l := by omega
    subst e
    exact ch_next hs (by omega) hr b

theorem lvl_top {r : Nat} (hr : r < N.length + 2) (h : L ≤ lvl N L r) : r < 2 := by
  rcases Nat.lt_or_ge r 2 with h2 | h2
  · exact h2
  · have := hs.lv h2 hr
    unfold lvl at h
    rw [if_neg (by omega)] at h
    omega
end

/-- The states of a combination; op on two bits is g. -/
def cbB {L : Nat} {N N' : List Nd} (hs : Shp L N) (hs' : Shp L N') (g : Nat → Nat → Nat) : Br (Rf N × Rf N') where
  lev s := min (lvl N L s.1.1) (lvl N' L s.2.1)
  lo s := (⟨ch N s.1.1 (min (lvl N L s.1.1) (lvl N' L s.2.1)) false, ch_lt hs s.1.2⟩, ⟨ch N' s.2.1 (min (lvl N L s.1.1) (lvl N' L s.2.1)) false, ch_lt hs' s.2.2⟩)
  hi s := (⟨ch N s.1.1 (min (lvl N L s.1.1) (lvl N' L s.2.1)) true, ch_lt hs s.1.2⟩, ⟨ch N' s.2.1 (min (lvl N L s.1.1) (lvl N' L s.2.1)) true, ch_lt hs' s.2.2⟩)
  val s := g s.1.1 s.2.1

theorem cb_all {L : Nat} {N N' : List Nd} (hs : Shp L N) (hs' : Shp L N') (g : Nat → Nat → Nat) (G : Bool → Bool → Bool) (hg : ∀ a b, a < 2 → b < 2 → g a b < 2 ∧ (g a b == 1) = G (a == 1) (b == 1)) (s : Rf N × Rf N') :
    bld (fun j => G (evT N L s.1.1 j) (evT N' L s.2.1 j)) L L 0 [] = ((mk L (cbB hs hs' g) (L + 1) s (fun _ => none) []).1, (mk L (cbB hs hs' g) (L + 1) s (fun _ => none) []).2.2) := by
  refine mk_all (B := cbB hs hs' g) (fn := fun s j => G (evT N L s.1.1 j) (evT N' L s.2.1 j)) (fun s hl => ?_) (fun s hl => ?_) s
  · have hl' : L ≤ min (lvl N L s.1.1) (lvl N' L s.2.1) := hl
    have ha := lvl_top hs s.1.2 (by omega)
    have hb := lvl_top hs' s.2.2 (by omega)
    obtain ⟨h1, h2⟩ := hg _ _ ha hb
    refine ⟨h1, fun j => ?_⟩
    show G _ _ = (g s.1.1 s.2.1 == 1)
    rw [h2]
    unfold evT
    rw [if_pos ha, if_pos hb]
  · have hl' : min (lvl N L s.1.1) (lvl N' L s.2.1) < L := hl
    have lt : ∀ b, min (lvl N L s.1.1) (lvl N' L s.2.1) < min (lvl N L (ch N s.1.1 (min (lvl N L s.1.1) (lvl N' L s.2.1)) b)) (lvl N' L (ch N' s.2.1 (min (lvl N L s.1.1) (lvl N' L s.2.1)) b)) := fun b => by
      have h1 := ch_past hs s.1.2 hl' (Nat.min_le_left _ _) b
      have h2 := ch_past hs' s.2.2 hl' (Nat.min_le_right _ _) b
      exact Nat.lt_min.2 ⟨h1, h2⟩
    refine ⟨lt false, lt true, fun j => ?_⟩
    show G (evT N L s.1.1 j) (evT N' L s.2.1 j) = _
    rw [evT_at hs (l := min (lvl N L s.1.1) (lvl N' L s.2.1)) s.1.2 j, evT_at hs' (l := min (lvl N L s.1.1) (lvl N' L s.2.1)) s.2.2 j]
    by_cases hb : j / 2 ^ (L - 1 - (cbB hs hs' g).lev s) % 2 = 1
    · rw [if_pos hb]
      have hb' : j / 2 ^ (L - 1 - min (lvl N L s.1.1) (lvl N' L s.2.1)) % 2 = 1 := hb
      rw [decide_eq_true hb']
      rfl
    · rw [if_neg hb]
      have hb' : ¬ j / 2 ^ (L - 1 - min (lvl N L s.1.1) (lvl N' L s.2.1)) % 2 = 1 := hb
      rw [decide_eq_false hb']
      rfl

end Dg
end Go.Proofs.Ytamjfcckgeakfaa
