/-
  Decision diagrams, plain mathematics: the states of the program's restriction.
-/
import Derived.Test.YtamjfcckgeakfaaDgBx
namespace Go.Proofs.Ytamjfcckgeakfaa
open Go.RowKit Num
namespace Dg

/-- The level of a reference; that of a constant is below all levels. -/
def lvl (N : List Nd) (L r : Nat) : Nat := if r < 2 then L else (nd N r).1

theorem lvl_up {N : List Nd} {L l r : Nat} (hl : l ≤ L) (hu : Up N l r) : l ≤ lvl N L r := by
  unfold lvl
  split
  · exact hl
  · rcases hu with h | h
    · omega
    · exact h

section
variable {L : Nat} {N : List Nd} (hs : Shp L N)
include hs

theorem ch_lvl {r : Nat} (hr : r < N.length + 2) (v : Nat) (b : Bool) : lvl N L r ≤ lvl N L (ch N r v b) := by
  unfold ch
  split
  · exact Nat.le_refl _
  · rename_i h
    have h2 : 2 ≤ r := by omega
    have hv := hs.lv h2 hr
    have e : lvl N L r = (nd N r).1 := by unfold lvl; rw [if_neg (by omega)]
    rw [e]
    split
    · exact Nat.le_of_lt (lvl_up (by omega) (hs.hi h2 hr).2)
    · exact Nat.le_of_lt (lvl_up (by omega) (hs.lo h2 hr).2)

theorem ch_next {r : Nat} (h2 : 2 ≤ r) (hr : r < N.length + 2) (b : Bool) : (nd N r).1 < lvl N L (ch N r (nd N r).1 b) := by
  have hv := hs.lv h2 hr
  unfold ch
  rw [if_neg (by omega)]
  split
  · exact lvl_up (by omega) (hs.hi h2 hr).2
  · exact lvl_up (by omega) (hs.lo h2 hr).2

theorem evT_ch {r j : Nat} (h2 : 2 ≤ r) (hr : r < N.length + 2) : evT N L r j = evT N L (ch N r (nd N r).1 (decide (j / 2 ^ (L - 1 - (nd N r).1) % 2 = 1))) j := by
  have hc : ∀ b, ch N r (nd N r).1 b = if b then (nd N r).2.2 else (nd N r).2.1 := fun b => by unfold ch; rw [if_neg (by omega)]
  rw [evT_step hs h2 hr, hc]
  by_cases h : j / 2 ^ (L - 1 - (nd N r).1) % 2 = 1
  · rw [if_pos h, decide_eq_true h, if_pos rfl]
  · rw [if_neg h, decide_eq_false h, if_neg (by simp)]

/-- One level is skipped. -/
theorem evT_skip {v : Nat} (val : Bool) {r : Nat} (hr : r < N.length + 2) (j : Nat) : evT N L r (fx (L - 1 - v) val j) = evT N L (ch N r v val) (fx (L - 1 - v) val j) := by
  by_cases h : r < 2 ∨ (nd N r).1 ≠ v
  · unfold ch; rw [if_pos h]
  · have h2 : 2 ≤ r := by omega
    have e : (nd N r).1 = v := by omega
    rw [evT_ch hs h2 hr, e, fx_at]
    cases val <;> rfl

theorem skip_ne {v : Nat} (val : Bool) {r : Nat} (hr : r < N.length + 2) (h2 : 2 ≤ ch N r v val) : (nd N (ch N r v val)).1 ≠ v := by
  by_cases h : r < 2 ∨ (nd N r).1 ≠ v
  · have e : ch N r v val = r := by unfold ch; rw [if_pos h]
    rw [e] at h2 ⊢
    omega
  · have hr2 : 2 ≤ r := by omega
    have e : (nd N r).1 = v := by omega
    have := ch_next hs hr2 hr val
    rw [e] at this
    unfold lvl at this
    rw [if_neg (by omega)] at this
    omega
end

abbrev Rf (N : List Nd) := { r : Nat // r < N.length + 2 }

/-- The states of a restriction. -/
def rsB {L : Nat} {N : List Nd} (hs : Shp L N) (v : Nat) (val : Bool) : Br (Rf N) where
  lev s := lvl N L (ch N s.1 v val)
  lo s := ⟨ch N (ch N s.1 v val) (lvl N L (ch N s.1 v val)) false, ch_lt hs (ch_lt hs s.2)⟩
  hi s := ⟨ch N (ch N s.1 v val) (lvl N L (ch N s.1 v val)) true, ch_lt hs (ch_lt hs s.2)⟩
  val s := ch N s.1 v val

theorem rs_all {L : Nat} {N : List Nd} (hs : Shp L N) (v : Nat) (hvL : v < L) (val : Bool) (s : Rf N) :
    bld (fun j => evT N L s.1 (fx (L - 1 - v) val j)) L L 0 [] = ((mk L (rsB hs v val) (L + 1) s (fun _ => none) []).1, (mk L (rsB hs v val) (L + 1) s (fun _ => none) []).2.2) := by
  refine mk_all (B := rsB hs v val) (fn := fun s j => evT N L s.1 (fx (L - 1 - v) val j)) (fun s hl => ?_) (fun s hl => ?_) s
  · have hc := ch_lt (l := v) (b := val) hs s.2
    have h2 : ch N s.1 v val < 2 := by
      rcases Nat.lt_or_ge (ch N s.1 v val) 2 with h | h
      · exact h
      · have := hs.lv h hc
        have e : (rsB hs v val).lev s = (nd N (ch N s.1 v val)).1 := by show lvl N L _ = _; unfold lvl; rw [if_neg (by omega)]
        omega
    refine ⟨h2, fun j => ?_⟩
    show evT N L s.1 _ = _
    rw [evT_skip hs val s.2]
    unfold evT
    rw [if_pos h2]
    rfl
  · have hc := ch_lt (l := v) (b := val) hs s.2
    have h2 : 2 ≤ ch N s.1 v val := by
      rcases Nat.lt_or_ge (ch N s.1 v val) 2 with h | h
      · have e : (rsB hs v val).lev s = L := by show lvl N L _ = _; unfold lvl; rw [if_pos h]
        omega
      · exact h
    have e : (rsB hs v val).lev s = (nd N (ch N s.1 v val)).1 := by show lvl N L _ = _; unfold lvl; rw [if_neg (by omega)]
    have elv : lvl N L (ch N s.1 v val) = (nd N (ch N s.1 v val)).1 := e
    have hne := skip_ne hs (v := v) val s.2 h2
    have hv := hs.lv h2 hc
    rw [e]
    refine ⟨?_, ?_, fun j => ?_⟩
    · show _ < lvl N L (ch N (ch N (ch N s.1 v val) (lvl N L (ch N s.1 v val)) false) v val)
      rw [elv]
      exact Nat.lt_of_lt_of_le (ch_next hs h2 hc false) (ch_lvl hs (ch_lt hs hc) v val)
    · show _ < lvl N L (ch N (ch N (ch N s.1 v val) (lvl N L (ch N s.1 v val)) true) v val)
      rw [elv]
      exact Nat.lt_of_lt_of_le (ch_next hs h2 hc true) (ch_lvl hs (ch_lt hs hc) v val)
    · show evT N L s.1 _ = _
      rw [evT_skip hs val s.2, evT_ch hs h2 hc]
      rw [fx_other _ _ _ _ (by omega)]
      by_cases hb : j / 2 ^ (L - 1 - (nd N (ch N s.1 v val)).1) % 2 = 1
      · rw [if_pos hb, decide_eq_true hb]
        show _ = evT N L (ch N (ch N s.1 v val) (lvl N L (ch N s.1 v val)) true) _
        rw [elv]
      · rw [if_neg hb, decide_eq_false hb]
        show _ = evT N L (ch N (ch N s.1 v val) (lvl N L (ch N s.1 v val)) false) _
        rw [elv]

end Dg
end Go.Proofs.Ytamjfcckgeakfaa
