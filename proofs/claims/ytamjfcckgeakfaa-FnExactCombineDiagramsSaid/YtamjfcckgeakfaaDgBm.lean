/-
  Decision diagrams, plain mathematics: a builder over states with a memory of what it knows makes the diagram of the first state's function.
-/
import Derived.Test.YtamjfcckgeakfaaDgBg
namespace Go.Proofs.Ytamjfcckgeakfaa
open Go.RowKit Num
namespace Dg

theorem bld_congr {T T' : Nat → Bool} (L : Nat) : ∀ m q ns, (∀ j, j / 2 ^ m = q → T j = T' j) → bld T L m q ns = bld T' L m q ns
  | 0, q, ns, h => by rw [bld, bld, h q (by simp)]
  | m + 1, q, ns, h => by
    have h1 : ∀ y : Bool, ∀ j, j / 2 ^ m = 2 * q + y.toNat → T j = T' j := fun y j hj => h j (half_of hj)
    rw [bld, bld, bld_congr L m (2 * q) ns (by simpa using h1 false), bld_congr L m (2 * q + 1) _ (by simpa using h1 true)]

/-- Levels at which nothing is decided. -/
theorem bld_lift (T : Nat → Bool) {L : Nat} {ns ns' : List Nd} {m0 r : Nat} (hs : Shp L ns) (hr : Red ns) (hn : ns.Nodup) (h : ∀ q, bld T L m0 q ns = (r, ns')) : ∀ d, m0 + d ≤ L → ∀ q, bld T L (m0 + d) q ns = (r, ns')
  | 0, _, q => h q
  | d + 1, hd, q => by
    have ih := bld_lift T hs hr hn h d (by omega)
    have M := bld_made T L (m0 + d) (2 * q + 1) ns (by omega) hn hr hs.clo
    obtain ⟨g1, g2⟩ := bld_good T L (m0 + d) (2 * q + 1) ns (by omega) hs hr hn
    rw [ih] at M g1 g2
    have hb := bld_known T g1 M.red M.nodup (m := m0 + d) (q := 2 * q + 1) (r := r) (by omega) M.ref M.up g2
    rw [show m0 + (d + 1) = m0 + d + 1 by omega, bld]
    simp only [ih, hb, if_true]

variable {S : Type} [DecidableEq S]

/-- How the function of a state goes on: its level, the states behind it, its value where no level is left. -/
structure Br (S : Type) where
  lev : S → Nat
  lo : S → S
  hi : S → S
  val : S → Nat

/-- A node is found, made, or left out. -/
def putN (ns : List Nd) (v a b : Nat) : Nat × List Nd := if a = b then (a, ns) else (ns.idxOf (v, a, b) + 2, if (v, a, b) ∈ ns then ns else ns ++ [(v, a, b)])

theorem putN_pre (ns : List Nd) (v a b : Nat) : ns <+: (putN ns v a b).2 := by
  unfold putN
  split
  · exact List.prefix_refl _
  · dsimp only
    split
    · exact List.prefix_refl _
    · exact List.prefix_append _ _

/-- The builder. -/
def mk (L : Nat) (B : Br S) : Nat → S → (S → Option Nat) → List Nd → Nat × (S → Option Nat) × List Nd
  | 0, _, kn, ns => (0, kn, ns)
  | k + 1, s, kn, ns => match kn s with
    | some r => (r, kn, ns)
    | none =>
      if B.lev s < L then
        let a := mk L B k (B.lo s) kn ns
        let b := mk L B k (B.hi s) a.2.1 a.2.2
        let r := putN b.2.2 (B.lev s) a.1 b.1
        (r.1, fun x => if x = s then some r.1 else b.2.1 x, r.2)
      else (B.val s, fun x => if x = s then some (B.val s) else kn x, ns)

/-- What is known is right. -/
def Kn (L : Nat) (B : Br S) (fn : S → Nat → Bool) (kn : S → Option Nat) (ns : List Nd) : Prop := ∀ s r, kn s = some r → r < ns.length + 2 ∧ Up ns (B.lev s) r ∧ ∀ j, fn s j = evT ns L r j

theorem evT_pre {L : Nat} {ns ns' : List Nd} (h : ns <+: ns') (hs : Shp L ns) (hs' : Shp L ns') {r : Nat} (hr : r < ns.length + 2) (j : Nat) : evT ns' L r j = evT ns L r j := by
  rw [← ev_root hs' (Nat.le_refl L) (by have := h.length_le; omega) (.inr (by omega)), ← ev_root hs (Nat.le_refl L) hr (.inr (by omega)), ev_pre h hs L r j hr]

omit [DecidableEq S] in
theorem Kn.pre {L : Nat} {B : Br S} {fn : S → Nat → Bool} {kn : S → Option Nat} {ns ns' : List Nd} (h : Kn L B fn kn ns) (hp : ns <+: ns') (hs : Shp L ns) (hs' : Shp L ns') : Kn L B fn kn ns' := fun s r e => by
  obtain ⟨a, b, c⟩ := h s r e
  exact ⟨by have := hp.length_le; omega, b.pre hp a, fun j => by rw [c j, evT_pre hp hs hs' a j]⟩

theorem mk_bld {L : Nat} {B : Br S} {fn : S → Nat → Bool} (hval : ∀ s, L ≤ B.lev s → B.val s < 2 ∧ ∀ j, fn s j = (B.val s == 1))
    (hstep : ∀ s, B.lev s < L → B.lev s < B.lev (B.lo s) ∧ B.lev s < B.lev (B.hi s) ∧ ∀ j, fn s j = fn (if j / 2 ^ (L - 1 - B.lev s) % 2 = 1 then B.hi s else B.lo s) j) :
    ∀ m k s kn ns, m ≤ L → L - m ≤ B.lev s → m < k → Shp L ns → Red ns → ns.Nodup → Kn L B fn kn ns →
      (∀ q, bld (fn s) L m q ns = ((mk L B k s kn ns).1, (mk L B k s kn ns).2.2)) ∧ Kn L B fn (mk L B k s kn ns).2.1 (mk L B k s kn ns).2.2
  | m, 0, _, _, _, _, _, h, _, _, _, _ => absurd h (by omega)
  | m, k + 1, s, kn, ns, hm, hl, hk, hs, hr, hn, hkn => by
    -- whatever the builder answers: if it is bld's for every part, what is known stays right
    have fin : ∀ (r : Nat) (kn' : S → Option Nat) (ns' : List Nd), (∀ q, bld (fn s) L m q ns = (r, ns')) → Kn L B fn kn' ns' → Up ns' (B.lev s) r → Kn L B fn (fun x => if x = s then some r else kn' x) ns' := fun r kn' ns' hb hk' hu x y e => by
      dsimp only at e
      by_cases hx : x = s
      · subst hx
        rw [if_pos rfl] at e
        cases e
        have M := bld_made (fn x) L m 0 ns hm hn hr hs.clo
        rw [hb 0] at M
        refine ⟨M.ref, hu, fun j => ?_⟩
        obtain ⟨g1, g2⟩ := bld_good (fn x) L m (j / 2 ^ m) ns hm hs hr hn
        rw [hb] at g1 g2
        rw [g2 j rfl, ev_root g1 hm M.ref M.up]
      · rw [if_neg hx] at e
        exact hk' x y e
    rw [mk]
    cases hks : kn s with
    | some r =>
      simp only
      obtain ⟨a, b, c⟩ := hkn s r hks
      exact ⟨fun q => bld_known (fn s) hs hr hn hm a (b.mono hl) fun j _ => by rw [c j, ev_root hs hm a (b.mono hl)], hkn⟩
    | none =>
      simp only
      by_cases hlv : B.lev s < L
      · rw [if_pos hlv]
        obtain ⟨l1, l2, hf⟩ := hstep s hlv
        obtain ⟨m1, hm1⟩ : ∃ m1, L = B.lev s + (m1 + 1) := ⟨L - B.lev s - 1, by omega⟩
        obtain ⟨A1, A2⟩ := mk_bld hval hstep m1 k (B.lo s) kn ns (by omega) (by omega) (by omega) hs hr hn hkn
        have Ma := bld_made (fn (B.lo s)) L m1 0 ns (by omega) hn hr hs.clo
        have sa := (bld_good (fn (B.lo s)) L m1 0 ns (by omega) hs hr hn).1
        rw [A1 0] at Ma sa
        generalize mk L B k (B.lo s) kn ns = a at A1 A2 Ma sa ⊢
        obtain ⟨B1, B2⟩ := mk_bld hval hstep m1 k (B.hi s) a.2.1 a.2.2 (by omega) (by omega) (by omega) sa Ma.red Ma.nodup A2
        have sb := (bld_good (fn (B.hi s)) L m1 0 a.2.2 (by omega) sa Ma.red Ma.nodup).1
        rw [B1 0] at sb
        generalize mk L B k (B.hi s) a.2.1 a.2.2 = b at B1 B2 sb ⊢
        have hb : ∀ q, bld (fn s) L (m1 + 1) q ns = putN b.2.2 (B.lev s) a.1 b.1 := fun q => by
          have e1 : bld (fn s) L m1 (2 * q) ns = (a.1, a.2.2) := (bld_congr L m1 (2 * q) ns (fun j hj => by
            rw [hf j, show L - 1 - B.lev s = m1 by omega, if_neg (by omega)])).trans (A1 (2 * q))
          have e2 : bld (fn s) L m1 (2 * q + 1) a.2.2 = (b.1, b.2.2) := (bld_congr L m1 (2 * q + 1) a.2.2 (fun j hj => by
            rw [hf j, show L - 1 - B.lev s = m1 by omega, if_pos (by omega)])).trans (B1 (2 * q + 1))
          rw [bld]
          simp only [e1, e2, putN, show L - (m1 + 1) = B.lev s by omega]
        have M := bld_made (fn s) L (m1 + 1) 0 ns (by omega) hn hr hs.clo
        have g := (bld_good (fn s) L (m1 + 1) 0 ns (by omega) hs hr hn).1
        rw [hb 0] at M g
        have hp := putN_pre b.2.2 (B.lev s) a.1 b.1
        generalize putN b.2.2 (B.lev s) a.1 b.1 = z at hb M g hp ⊢
        have hb' : ∀ q, bld (fn s) L m q ns = (z.1, z.2) := by
          have := bld_lift (fn s) hs hr hn (r := z.1) (ns' := z.2) hb (m - (m1 + 1)) (by omega)
          rwa [show m1 + 1 + (m - (m1 + 1)) = m by omega] at this
        exact ⟨hb', fin _ b.2.1 _ hb' (B2.pre hp sb g) (M.up.mono (by omega))⟩
      · rw [if_neg hlv]
        obtain ⟨v1, v2⟩ := hval s (by omega)
        have hb : ∀ q, bld (fn s) L m q ns = (B.val s, ns) := fun q => bld_known (fn s) hs hr hn hm (by omega) (.inl v1) fun j _ => by rw [ev_const ns L m _ j v1, v2 j]
        exact ⟨hb, fin _ kn ns hb hkn (.inl v1)⟩

/-- The builder from nothing makes the diagram of the state's function. -/
theorem mk_all {L : Nat} {B : Br S} {fn : S → Nat → Bool} (hval : ∀ s, L ≤ B.lev s → B.val s < 2 ∧ ∀ j, fn s j = (B.val s == 1))
    (hstep : ∀ s, B.lev s < L → B.lev s < B.lev (B.lo s) ∧ B.lev s < B.lev (B.hi s) ∧ ∀ j, fn s j = fn (if j / 2 ^ (L - 1 - B.lev s) % 2 = 1 then B.hi s else B.lo s) j) (s : S) :
    bld (fn s) L L 0 [] = ((mk L B (L + 1) s (fun _ => none) []).1, (mk L B (L + 1) s (fun _ => none) []).2.2) :=
  (mk_bld hval hstep L (L + 1) s (fun _ => none) [] (Nat.le_refl _) (by omega) (by omega) (fun k hk => absurd hk (by simp)) (fun k hk => absurd hk (by simp)) (by simp) (fun _ _ e => by cases e)).1 0

end Dg
end Go.Proofs.Ytamjfcckgeakfaa
