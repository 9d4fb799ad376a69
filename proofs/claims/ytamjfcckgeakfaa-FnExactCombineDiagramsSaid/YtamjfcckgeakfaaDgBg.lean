/-
  Decision diagrams, plain mathematics: the diagram built out of a table is well formed and has that table; a part whose function a reference has already is not built anew.
-/
import Derived.Test.YtamjfcckgeakfaaDgTi
namespace Go.Proofs.Ytamjfcckgeakfaa
open Go.RowKit Num
namespace Dg

theorem Shp.clo {L : Nat} {N : List Nd} (h : Shp L N) : Clo N := fun k hk => ⟨(h k hk).2.1, (h k hk).2.2.1⟩

theorem ch_pre {ns ns' : List Nd} (h : ns <+: ns') {r : Nat} (hr : r < ns.length + 2) (l : Nat) (b : Bool) : ch ns' r l b = ch ns r l b := by
  by_cases h2 : r < 2
  · rw [ch_const h2, ch_const h2]
  · unfold ch
    rw [nd_pre h hr (by omega)]

theorem ev_pre {L : Nat} {ns ns' : List Nd} (h : ns <+: ns') (hs : Shp L ns) : ∀ m r j, r < ns.length + 2 → ev ns' L m r j = ev ns L m r j
  | 0, _, _, _ => rfl
  | m + 1, r, j, hr => by
    rw [ev, ev, ch_pre h hr, ev_pre h hs m _ j (ch_lt hs hr)]

theorem Up.pre {ns ns' : List Nd} (h : ns <+: ns') {l r : Nat} (hr : r < ns.length + 2) (hu : Up ns l r) : Up ns' l r := by
  rcases hu with hu | hu
  · exact .inl hu
  · by_cases h2 : r < 2
    · exact .inl h2
    · exact .inr (by rw [nd_pre h hr (by omega)]; exact hu)

theorem ch_up {N : List Nd} {l r : Nat} (b : Bool) (hu : Up N (l + 1) r) : ch N r l b = r := by
  unfold ch
  rw [if_pos]
  rcases hu with hu | hu
  · exact .inl hu
  · exact .inr (by omega)

/-- A list with one more node at its end. -/
theorem Shp.snoc {L : Nat} {N : List Nd} (h : Shp L N) {v a b : Nat} (hv : v < L) (ha : a < N.length + 2) (hb : b < N.length + 2) (ua : Up N (v + 1) a) (ub : Up N (v + 1) b) : Shp L (N ++ [(v, a, b)]) := by
  have hp : N <+: N ++ [(v, a, b)] := List.prefix_append _ _
  intro k hk
  rw [List.length_append, List.length_singleton] at hk
  by_cases hkn : k < N.length
  · obtain ⟨a1, a2, a3, a4, a5⟩ := h k hkn
    rw [nd_pre hp (by omega) (by omega)]
    refine ⟨a1, a2, a3, fun h2 => ?_, fun h2 => ?_⟩
    · rw [nd_pre hp (by omega) h2]; exact a4 h2
    · rw [nd_pre hp (by omega) h2]; exact a5 h2
  · obtain rfl : k = N.length := by omega
    have hg : nd (N ++ [(v, a, b)]) (N.length + 2) = (v, a, b) := by
      unfold nd
      simp [List.getD_eq_getElem?_getD]
    rw [hg]
    refine ⟨hv, ha, hb, fun h2 => ?_, fun h2 => ?_⟩ <;> dsimp only at h2 ⊢
    · rw [nd_pre hp ha h2]
      rcases ua with u | u
      · omega
      · exact u
    · rw [nd_pre hp hb h2]
      rcases ub with u | u
      · omega
      · exact u

theorem bld_good (T : Nat → Bool) (L : Nat) : ∀ m q ns, m ≤ L → Shp L ns → Red ns → ns.Nodup → Shp L (bld T L m q ns).2 ∧ ∀ j, j / 2 ^ m = q → T j = ev (bld T L m q ns).2 L m (bld T L m q ns).1 j
  | 0, q, ns, _, hs, _, _ => by
    rw [bld]
    refine ⟨hs, fun j hj => ?_⟩
    have : j = q := by simpa using hj
    subst this
    rw [ev]
    cases T j <;> rfl
  | m + 1, q, ns, hm, hs, hr, hn => by
    have Ma := bld_made T L m (2 * q) ns (by omega) hn hr hs.clo
    obtain ⟨sa, ea⟩ := bld_good T L m (2 * q) ns (by omega) hs hr hn
    have Mb := bld_made T L m (2 * q + 1) (bld T L m (2 * q) ns).2 (by omega) Ma.nodup Ma.red Ma.clo
    obtain ⟨sb, eb⟩ := bld_good T L m (2 * q + 1) (bld T L m (2 * q) ns).2 (by omega) sa Ma.red Ma.nodup
    rw [bld]
    generalize bld T L m (2 * q + 1) (bld T L m (2 * q) ns).2 = b at *
    generalize bld T L m (2 * q) ns = a at *
    obtain ⟨a, na⟩ := a
    obtain ⟨b, nb⟩ := b
    simp only at *
    have ha : a < nb.length + 2 := by have := Ma.ref; have := Mb.pre.length_le; omega
    have hb := Mb.ref
    have ua : Up nb (L - (m + 1) + 1) a := (Ma.up.pre Mb.pre Ma.ref).mono (by omega)
    have ub : Up nb (L - (m + 1) + 1) b := Mb.up.mono (by omega)
    have hbit : ∀ j, j / 2 ^ (m + 1) = q → ∃ y : Bool, j / 2 ^ m = 2 * q + y.toNat ∧ T j = ev nb L m (if y then b else a) j := fun j hj => by
      have h1 : j / 2 ^ m / 2 = q := by rw [Nat.div_div_eq_div_mul, ← Nat.pow_succ]; exact hj
      have : j / 2 ^ m = 2 * q ∨ j / 2 ^ m = 2 * q + 1 := by omega
      rcases this with e | e
      · exact ⟨false, by simpa using e, by rw [ea j e, if_neg (by simp), ev_pre Mb.pre sa m a j Ma.ref]⟩
      · exact ⟨true, by simpa using e, by rw [eb j e, if_pos rfl]⟩
    by_cases hab : a = b
    · rw [if_pos hab]
      refine ⟨sb, fun j hj => ?_⟩
      obtain ⟨y, hy, hT⟩ := hbit j hj
      show T j = ev nb L (m + 1) a j
      rw [ev_half y hy, ch_up y ua, hT]
      subst hab
      cases y <;> rfl
    · rw [if_neg hab]
      have key : ∀ N' r, nb <+: N' → Shp L N' → r < N'.length + 2 → 2 ≤ r → nd N' r = (L - (m + 1), a, b) → ∀ j, j / 2 ^ (m + 1) = q → T j = ev N' L (m + 1) r j := fun N' r hp hs' hr' h2 hg j hj => by
        obtain ⟨y, hy, hT⟩ := hbit j hj
        rw [ev_half y hy, show ch N' r (L - (m + 1)) y = if y then b else a by unfold ch; rw [hg, if_neg (by simp; omega)], hT]
        refine (ev_pre hp sb m _ j ?_).symm
        cases y <;> simp <;> omega
      by_cases hx : (L - (m + 1), a, b) ∈ nb
      · rw [if_pos hx]
        have hi := List.idxOf_lt_length_iff.2 hx
        refine ⟨sb, key nb _ (List.prefix_refl _) sb (by omega) (by omega) ?_⟩
        rw [nd_get hi]
        exact List.getElem_idxOf hi
      · rw [if_neg hx]
        have hs' := sb.snoc (v := L - (m + 1)) (a := a) (b := b) (by omega) ha hb ua ub
        refine ⟨hs', key _ _ (List.prefix_append _ _) hs' (by rw [List.idxOf_eq_length hx, List.length_append]; simp) (by omega) ?_⟩
        rw [List.idxOf_eq_length hx]
        unfold nd
        simp [List.getD_eq_getElem?_getD]

/-- Nothing is built anew for a part whose function a reference has. -/
theorem bld_known (T : Nat → Bool) {L : Nat} {N : List Nd} (hs : Shp L N) (hr : Red N) (hn : N.Nodup) {m q r : Nat} (hm : m ≤ L) (h1 : r < N.length + 2) (hu : Up N (L - m) r) (hT : ∀ j, j / 2 ^ m = q → T j = ev N L m r j) : bld T L m q N = (r, N) := by
  have := bld_old T hs hr hn (Nat.le_refl _) m q r hm h1 hu hT
  simpa using this

end Dg
end Go.Proofs.Ytamjfcckgeakfaa
