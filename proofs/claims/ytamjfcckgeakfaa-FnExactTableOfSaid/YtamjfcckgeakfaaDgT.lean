/-
  Decision diagrams: the nodes as plain mathematics has them; the table of the nodes that a traversal has not left; what a traversal's cells read as.
-/
import Derived.Test.YtamjfcckgeakfaaDgK
import Derived.Test.YtamjfcckgeakfaaDgM
namespace Go.Proofs.Ytamjfcckgeakfaa
open Go.RowKit Num

/-- The nodes, as plain mathematics has them. -/
def ndl (n : Nat) (f : Nat → Int) : List Dg.Nd := (List.range n).map fun k => ((f (k * 3)).toNat, (f (k * 3 + 1)).toNat, (f (k * 3 + 2)).toNat)
theorem ndl_len (n : Nat) (f : Nat → Int) : (ndl n f).length = n := by simp [ndl]
theorem nd_ndl {n k : Nat} (f : Nat → Int) (h : k < n) : Dg.nd (ndl n f) (k + 2) = ((f (k * 3)).toNat, (f (k * 3 + 1)).toNat, (f (k * 3 + 2)).toNat) := by
  rw [Dg.nd_get (by rw [ndl_len]; exact h)]
  simp [ndl]

/-- Levels and references are in order. -/
def ShpI (L : Int) (n : Nat) (f : Nat → Int) : Prop := ∀ k, k < n → (0 ≤ f (k * 3) ∧ f (k * 3) < L) ∧ (0 ≤ f (k * 3 + 1) ∧ f (k * 3 + 1) < k + 2) ∧ (0 ≤ f (k * 3 + 2) ∧ f (k * 3 + 2) < k + 2) ∧
  (2 ≤ f (k * 3 + 1) → f (k * 3) < f (((f (k * 3 + 1)).toNat - 2) * 3)) ∧ (2 ≤ f (k * 3 + 2) → f (k * 3) < f (((f (k * 3 + 2)).toNat - 2) * 3))

section
variable {L : Int} {n : Nat} {f : Nat → Int}

theorem ShpI.shp (h : ShpI L n f) : Dg.Shp L.toNat (ndl n f) := by
  intro k hk
  rw [ndl_len] at hk
  rw [nd_ndl f hk]
  obtain ⟨⟨a1, a2⟩, ⟨b1, b2⟩, ⟨c1, c2⟩, d, e⟩ := h k hk
  refine ⟨by show (f (k * 3)).toNat < _; omega, by show (f (k * 3 + 1)).toNat < _; omega, by show (f (k * 3 + 2)).toNat < _; omega, fun h2 => ?_, fun h2 => ?_⟩
  · have h2' : 2 ≤ (f (k * 3 + 1)).toNat := h2
    show (f (k * 3)).toNat < (Dg.nd (ndl n f) (f (k * 3 + 1)).toNat).1
    rw [show (f (k * 3 + 1)).toNat = ((f (k * 3 + 1)).toNat - 2) + 2 by omega, nd_ndl f (show (f (k * 3 + 1)).toNat - 2 < n by omega)]
    have := d (by omega)
    have h0 := (h _ (show (f (k * 3 + 1)).toNat - 2 < n by omega)).1.1
    show (f (k * 3)).toNat < (f (((f (k * 3 + 1)).toNat - 2) * 3)).toNat
    omega
  · have h2' : 2 ≤ (f (k * 3 + 2)).toNat := h2
    show (f (k * 3)).toNat < (Dg.nd (ndl n f) (f (k * 3 + 2)).toNat).1
    rw [show (f (k * 3 + 2)).toNat = ((f (k * 3 + 2)).toNat - 2) + 2 by omega, nd_ndl f (show (f (k * 3 + 2)).toNat - 2 < n by omega)]
    have := e (by omega)
    have h0 := (h _ (show (f (k * 3 + 2)).toNat - 2 < n by omega)).1.1
    show (f (k * 3)).toNat < (f (((f (k * 3 + 2)).toNat - 2) * 3)).toNat
    omega

theorem ShpI.wf (h : ShpI L n f) (hL : L ≤ 10) (hn : n ≤ 1048576) {k : Nat} (hk : k < n) : (Lit.int .i64 (f (k * 3))).wf = true ∧ (Lit.int .i64 (f (k * 3 + 1))).wf = true ∧ (Lit.int .i64 (f (k * 3 + 2))).wf = true := by
  obtain ⟨⟨a1, a2⟩, ⟨b1, b2⟩, ⟨c1, c2⟩, _⟩ := h k hk
  exact ⟨WalkArith.wf_i64 (by omega), WalkArith.wf_i64 (by omega), WalkArith.wf_i64 (by omega)⟩

/-- What node k reads as as a key. -/
noncomputable def kl (f : Nat → Int) (k : Nat) : Lit := (keyOf Try.prog 86 (.agg #[.int .i64 (f (k * 3)), .int .i64 (f (k * 3 + 1)), .int .i64 (f (k * 3 + 2))])).getD (.bool false)
theorem kl_eq (h : ShpI L n f) (hL : L ≤ 10) (hn : n ≤ 1048576) {k : Nat} (hk : k < n) : keyOf Try.prog 86 (.agg #[.int .i64 (f (k * 3)), .int .i64 (f (k * 3 + 1)), .int .i64 (f (k * 3 + 2))]) = some (kl f k) := by
  obtain ⟨w0, w1, w2⟩ := h.wf hL hn hk
  obtain ⟨l, hl⟩ := keyOf_dg _ _ _ w0 w1 w2
  rw [kl, hl]; rfl
theorem kl_inj (h : ShpI L n f) (hL : L ≤ 10) (hn : n ≤ 1048576) {j k : Nat} (hj : j < n) (hk : k < n) : kl f j = kl f k ↔ Dg.nd (ndl n f) (j + 2) = Dg.nd (ndl n f) (k + 2) := by
  rw [nd_ndl f hj, nd_ndl f hk]
  obtain ⟨⟨a1, a2⟩, ⟨b1, b2⟩, ⟨c1, c2⟩, _⟩ := h j hj
  obtain ⟨⟨a3, a4⟩, ⟨b3, b4⟩, ⟨c3, c4⟩, _⟩ := h k hk
  constructor
  · intro e
    have e1 := kl_eq h hL hn hj
    have e2 := kl_eq h hL hn hk
    rw [e] at e1
    have e3 := Try.lawDg.inj e1 e2
    simp only [Value.agg.injEq, Array.mk.injEq, List.cons.injEq, Value.int.injEq, true_and, and_true] at e3
    rw [e3.1, e3.2.1, e3.2.2]
  · intro e
    simp only [Prod.mk.injEq] at e
    unfold kl
    rw [show f (j * 3) = f (k * 3) by omega, show f (j * 3 + 1) = f (k * 3 + 1) by omega, show f (j * 3 + 2) = f (k * 3 + 2) by omega]

/-- The reference of the last of the first c nodes that equals x, or 0. -/
def le (N : List Dg.Nd) (x : Dg.Nd) : Nat → Nat
  | 0 => 0
  | c + 1 => if Dg.nd N (c + 2) = x then c + 2 else le N x c

theorem le_bound (N : List Dg.Nd) (x : Dg.Nd) : ∀ c, le N x c = 0 ∨ (2 ≤ le N x c ∧ le N x c < c + 2 ∧ Dg.nd N (le N x c) = x)
  | 0 => .inl rfl
  | c + 1 => by
    rw [le]
    split
    · rename_i h; exact .inr ⟨by omega, by omega, h⟩
    · rcases le_bound N x c with h | h
      · exact .inl h
      · exact .inr ⟨h.1, by omega, h.2.2⟩

theorem le_last (N : List Dg.Nd) (x : Dg.Nd) {r : Nat} (h2 : 2 ≤ r) (hx : Dg.nd N r = x) : ∀ c, r < c + 2 → (le N x c = r ↔ ∀ k, r - 2 < k → k < c → Dg.nd N (k + 2) ≠ x)
  | 0, hr => by omega
  | c + 1, hr => by
    rw [le]
    by_cases hc : Dg.nd N (c + 2) = x
    · rw [if_pos hc]
      constructor
      · rintro rfl k hk1 hk2; omega
      · intro h
        by_cases he : c + 2 = r
        · exact he
        · exact absurd hc (h c (by omega) (by omega))
    · rw [if_neg hc]
      have hne : r ≠ c + 2 := fun e => hc (by rw [← e]; exact hx)
      rw [le_last N x h2 hx c (by omega)]
      constructor
      · intro h k hk1 hk2
        by_cases he : k = c
        · subst he; exact hc
        · exact h k hk1 (by omega)
      · intro h k hk1 hk2; exact h k hk1 (by omega)

/-- A reference's node is the last of its like. -/
def own (N : List Dg.Nd) (r : Nat) : Bool := decide (le N (Dg.nd N r) N.length = r)
theorem own_iff (N : List Dg.Nd) {r : Nat} (h2 : 2 ≤ r) (hr : r < N.length + 2) : own N r = true ↔ Dg.IsLast N r := by
  unfold own Dg.IsLast
  rw [decide_eq_true_eq, le_last N _ h2 rfl _ hr]

/-- What the table says of node k, where the references in lf have been left. -/
def un (N : List Dg.Nd) (lf : List Nat) (k : Nat) : Nat := if le N (Dg.nd N (k + 2)) N.length ∈ lf then 0 else le N (Dg.nd N (k + 2)) N.length

/-- Block m is a table that says U k of node k. -/
def MapU (w : World) (m cnt n : Nat) (f : Nat → Int) (U : Nat → Nat) : Prop :=
  ∃ D : DataW Unit, w.ownsMap Try.prog 86 (plainElem Try.prog 3) m cnt D ∧ Maps.IsMap D ∧ ∀ k, k < n → D.atKey (kl f k) (.lit (.int .i64 0)) = .lit (.int .i64 (U k : Nat))

theorem MapU.keep {w w' : World} {m cnt : Nat} {U : Nat → Nat} (h : MapU w m cnt n f U) (k : w'.heap[m]? = w.heap[m]?) : MapU w' m cnt n f U := by
  obtain ⟨D, ⟨es, cl, hb, r⟩, h2⟩ := h
  exact ⟨D, ⟨es, cl, k.trans hb, r⟩, h2⟩
theorem MapU.lt {w : World} {m cnt : Nat} {U : Nat → Nat} (h : MapU w m cnt n f U) : m < w.heap.size := by
  obtain ⟨D, ⟨es, cl, hb, r⟩, h2⟩ := h
  exact heap_lt hb

theorem MapU.look {w : World} {m cnt : Nat} {U : Nat → Nat} (hs : ShpI L n f) (hL : L ≤ 10) (hn : n ≤ 1048576) (h : MapU w m cnt n f U) {k : Nat} (hk : k < n) (W : World) (hW : W.heap = w.heap) :
    (Instr.lookup 119 (.map (some m)) (.agg #[.int .i64 (f (k * 3)), .int .i64 (f (k * 3 + 1)), .int .i64 (f (k * 3 + 2))]) false).run Try.prog W = .ok (.int .i64 (U k : Nat)) W := by
  obtain ⟨D, h1, h2, h3⟩ := h.keep (w' := W) (by rw [hW])
  obtain ⟨c, hrun, hat, _⟩ := h1.lookup_int Try.keyedDg Try.mapDg Try.underlying3 (Try.zeroIntDg W) (kl_eq hs hL hn hk)
  rw [h3 k hk] at hat
  simp only [DataW.lit.injEq, Lit.int.injEq, true_and] at hat
  rw [hrun, hat]

set_option maxRecDepth 100000 in
theorem MapU.put {w : World} {m cnt c : Nat} {U : Nat → Nat} (hs : ShpI L n f) (hL : L ≤ 10) (hn : n ≤ 1048576) (h : MapU w m cnt n f U) (hc : c < n) (hcnt : cnt < maxLen) :
    ∃ w', (Instr.mapUpdate 119 (.map (some m)) (.agg #[.int .i64 (f (c * 3)), .int .i64 (f (c * 3 + 1)), .int .i64 (f (c * 3 + 2))]) (.int .i64 ((c : Int) + 2))).run Try.prog w = .ok () w' ∧ MapU w' m (cnt + 1) n f (fun k => if Dg.nd (ndl n f) (c + 2) = Dg.nd (ndl n f) (k + 2) then c + 2 else U k) ∧ w.grownBy w' (some m) := by
  obtain ⟨D, h1, h2, h3⟩ := h
  have hwf : (Lit.int .i64 ((c : Int) + 2)).wf = true := WalkArith.wf_i64 (by omega)
  obtain ⟨w', hrun, hown, hg⟩ := h1.update Try.keyedDg Try.mapDg hcnt (kl_eq hs hL hn hc) (plainElem_int (H := Unit) Try.underlying3 hwf)
  refine ⟨w', hrun, ⟨_, hown, h2.put _ _, fun k hk => ?_⟩, hg⟩
  dsimp only
  by_cases he : Dg.nd (ndl n f) (c + 2) = Dg.nd (ndl n f) (k + 2)
  · rw [if_pos he, ← (kl_inj hs hL hn hc hk).2 he, Maps.atKey_put_same h2 (Try.keyedDg.key (kl_eq hs hL hn hc))]
    simp
  · rw [if_neg he, Maps.atKey_put_other (fun e => he ((kl_inj hs hL hn hk hc).1 e).symm)]
    exact h3 k hk

set_option maxRecDepth 100000 in
theorem MapU.drop {w : World} {m cnt c : Nat} {U : Nat → Nat} (hs : ShpI L n f) (hL : L ≤ 10) (hn : n ≤ 1048576) (h : MapU w m cnt n f U) (hc : c < n) (ty : TypeId) :
    ∃ w', (Builtin.delete_ #[119, 86] ty #[.map (some m), .agg #[.int .i64 (f (c * 3)), .int .i64 (f (c * 3 + 1)), .int .i64 (f (c * 3 + 2))]]).run Try.prog w = .ok (.tuple #[]) w' ∧ MapU w' m cnt n f (fun k => if Dg.nd (ndl n f) (c + 2) = Dg.nd (ndl n f) (k + 2) then 0 else U k) ∧ w.grownBy w' (some m) := by
  obtain ⟨D, h1, h2, h3⟩ := h
  obtain ⟨w', hrun, hown, hg⟩ := h1.drop Try.keyedDg Try.mapDg (kl_eq hs hL hn hc) ty
  refine ⟨w', hrun, ⟨_, hown, h2.del _, fun k hk => ?_⟩, hg.grown⟩
  dsimp only
  by_cases he : Dg.nd (ndl n f) (c + 2) = Dg.nd (ndl n f) (k + 2)
  · rw [if_pos he, ← (kl_inj hs hL hn hc hk).2 he, Maps.atKey_del_same]
    rfl
  · rw [if_neg he, Maps.atKey_del_other (fun e => he ((kl_inj hs hL hn hk hc).1 e).symm)]
    exact h3 k hk

theorem MapU.made (w : World) (f : Nat → Int) (n : Nat) : MapU (w.alloc (.map #[] 0)) w.heap.size 0 n f (fun _ => 0) :=
  ⟨.map [], World.ownsMap_made _ _ _ _, Maps.isMap_empty, fun _ _ => rfl⟩
end

end Go.Proofs.Ytamjfcckgeakfaa
