/-
  Decision diagrams, plain mathematics: following the references from the root.
-/
import Derived.Test.YtamjfcckgeakfaaDgZ
namespace Go.Proofs.Ytamjfcckgeakfaa
open Go.RowKit Num
namespace Dg

theorem ch_const {N : List Nd} {r l : Nat} {b : Bool} (h : r < 2) : ch N r l b = r := by unfold ch; rw [if_pos (.inl h)]

theorem ev_const (N : List Nd) (L : Nat) : ∀ m r j, r < 2 → ev N L m r j = (r == 1)
  | 0, _, _, _ => rfl
  | m + 1, r, j, h => by rw [ev, ch_const h, ev_const N L m r j h]

theorem ev_down {L : Nat} {N : List Nd} (hs : Shp L N) : ∀ m r j, m ≤ L → 2 ≤ r → r < N.length + 2 → L - m ≤ (nd N r).1 → ev N L m r j = ev N L (L - (nd N r).1) r j
  | 0, r, j, _, h2, hr, hl => by have := hs.lv h2 hr; omega
  | m + 1, r, j, hm, h2, hr, hl => by
    by_cases he : (nd N r).1 = L - (m + 1)
    · rw [he, show L - (L - (m + 1)) = m + 1 by omega]
    · rw [ev, show ch N r (L - (m + 1)) (j / 2 ^ m % 2 == 1) = r by unfold ch; rw [if_pos (.inr he)]]
      exact ev_down hs m r j (by omega) h2 hr (by omega)

/-- The value of a reference from its own level on. -/
def evT (N : List Nd) (L r j : Nat) : Bool := if r < 2 then r == 1 else ev N L (L - (nd N r).1) r j

theorem ev_root {L : Nat} {N : List Nd} (hs : Shp L N) {m r j : Nat} (hm : m ≤ L) (hr : r < N.length + 2) (hu : Up N (L - m) r) : ev N L m r j = evT N L r j := by
  unfold evT
  by_cases h : r < 2
  · rw [if_pos h, ev_const N L m r j h]
  · rw [if_neg h]
    exact ev_down hs m r j hm (by omega) hr (by rcases hu with h' | h' <;> omega)

theorem evT_step {L : Nat} {N : List Nd} (hs : Shp L N) {r j : Nat} (h2 : 2 ≤ r) (hr : r < N.length + 2) :
    evT N L r j = evT N L (if j / 2 ^ (L - 1 - (nd N r).1) % 2 = 1 then (nd N r).2.2 else (nd N r).2.1) j := by
  have hlv := hs.lv h2 hr
  obtain ⟨a1, a2⟩ := hs.lo h2 hr
  obtain ⟨b1, b2⟩ := hs.hi h2 hr
  have e : L - (nd N r).1 = (L - 1 - (nd N r).1) + 1 := by omega
  have hch : ∀ b, ch N r (L - (L - 1 - (nd N r).1 + 1)) b = if b then (nd N r).2.2 else (nd N r).2.1 := fun b => by
    unfold ch; rw [if_neg (by omega)]
  rw [evT, if_neg (by omega), e, ev, hch]
  by_cases hb : j / 2 ^ (L - 1 - (nd N r).1) % 2 = 1
  · rw [if_pos hb, if_pos (by rw [hb]; rfl)]
    exact ev_root hs (by omega) (by omega) (b2.mono (by omega))
  · rw [if_neg hb, if_neg (by simpa using hb)]
    exact ev_root hs (by omega) (by omega) (a2.mono (by omega))

end Dg

theorem bin_get : ∀ (n i v : Nat), v < n → (bin n i)[v]? = some (UInt8.ofNat (48 + i / 2 ^ (n - 1 - v) % 2))
  | n + 1, i, 0, _ => by rw [bin]; simp
  | n + 1, i, v + 1, h => by
    rw [bin, List.getElem?_cons_succ, bin_get n i v (by omega), show n + 1 - 1 - (v + 1) = n - 1 - v by omega]

end Go.Proofs.Ytamjfcckgeakfaa
