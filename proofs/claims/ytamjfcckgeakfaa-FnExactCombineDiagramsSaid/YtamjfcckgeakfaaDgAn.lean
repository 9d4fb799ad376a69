/-
  Decision diagrams: an answer that is a diagram and a bool.
-/
import Derived.Test.YtamjfcckgeakfaaDgNs
import Derived.Test.YtamjfcckgeakfaaDgBg
namespace Go.Proofs.Ytamjfcckgeakfaa
open Go.RowKit Num

def anL (ok : Bool) (L : Int) : Int := if ok then L else 0
def anR (ok : Bool) (D : Nat × List Dg.Nd) : Int := if ok then ((D.1 : Nat) : Int) else 0
def anN (ok : Bool) (D : Nat × List Dg.Nd) : Nat := if ok then D.2.length else 0
def AnPost (ok : Bool) (L : Int) (D : Nat × List Dg.Nd) (w : World) (e : Ending) (w' : World) : Prop := DgPost (anL ok L) (anR ok D) (anN ok D) (nf D.2) ok w e w'
theorem AnPost.no {L : Int} {D : Nat × List Dg.Nd} {w w' : World} (hb : Below w.heap.size w w') : AnPost false L D w (.returned (.tuple #[dgV 0 none 0 0 0, .bool false])) w' :=
  ⟨none, 0, rfl, fun h0 => absurd h0 (by simp [anN]), hb⟩
theorem AnPost.yes {L : Int} {D : Nat × List Dg.Nd} {w w' : World} {A : Option Addr} {c : Nat} (h : IntsAt w.heap.size w' A (D.2.length * 3) (nf D.2)) (hb : Below w.heap.size w w') : AnPost true L D w (.returned (.tuple #[dgV L A D.2.length c (D.1 : Nat), .bool true])) w' :=
  ⟨A, c, rfl, h, hb⟩

theorem ev_all {L : Nat} {N : List Dg.Nd} {r : Nat} (hs : Dg.Shp L N) (hr : r < N.length + 2) : Dg.ev N L L r = Dg.evT N L r := funext fun _ => Dg.ev_root hs (Nat.le_refl L) hr (.inr (by omega))

/-- A diagram's nodes out of their ints. -/
theorem ndl_nf (ns : List Dg.Nd) : ndl ns.length (nf ns) = ns := by
  refine List.ext_getElem (by rw [ndl_len]) fun k h1 h2 => ?_
  obtain ⟨e0, e1, e2⟩ := nf_at ns h2
  have : (ndl ns.length (nf ns))[k] = ((nf ns (k * 3)).toNat, (nf ns (k * 3 + 1)).toNat, (nf ns (k * 3 + 2)).toNat) := by simp [ndl]
  rw [this, e0, e1, e2]
  rfl
theorem shpI_nf {L : Nat} {ns : List Dg.Nd} (h : Dg.Shp L ns) : ShpI (L : Int) ns.length (nf ns) := by
  intro k hk
  obtain ⟨e0, e1, e2⟩ := nf_at ns hk
  obtain ⟨a, b, d, x, y⟩ := h k hk
  rw [Dg.nd_get hk] at a b d x y
  rw [e0, e1, e2]
  refine ⟨by omega, by omega, by omega, fun h2 => ?_, fun h2 => ?_⟩
  · have h2' : 2 ≤ ns[k].2.1 := by omega
    have hl : ns[k].2.1 - 2 < ns.length := by omega
    have := x h2'
    rw [show ns[k].2.1 = ns[k].2.1 - 2 + 2 by omega, Dg.nd_get hl] at this
    rw [Int.toNat_natCast, (nf_at ns hl).1]
    omega
  · have h2' : 2 ≤ ns[k].2.2 := by omega
    have hl : ns[k].2.2 - 2 < ns.length := by omega
    have := y h2'
    rw [show ns[k].2.2 = ns[k].2.2 - 2 + 2 by omega, Dg.nd_get hl] at this
    rw [Int.toNat_natCast, (nf_at ns hl).1]
    omega

/-- What a last region keeps: an argument's box, and the answer's. -/
structure AnK (P G : Nat) (L : Int) (A0 : Option Addr) (n c : Nat) (ro : Int) (w W : World) : Prop where
  bP : Box W P 28 #[.int .i64 L, .slice A0 n c, .int .i64 ro]
  bR : ∃ a b d, Box W G 28 #[a, b, d]
  bel : Below w.heap.size w W

section
variable {P G : Nat} {L : Int} {A0 : Option Addr} {n c : Nat} {ro : Int} {w W W' : World}
theorem AnK.by (hb : Below W.heap.size W W') (h : AnK P G L A0 n c ro w W) : AnK P G L A0 n c ro w W' :=
  ⟨h.bP.below hb h.bP.lt, (let ⟨a, b, d, k⟩ := h.bR; ⟨a, b, d, k.below hb k.lt⟩), h.bel.trans (hb.mono h.bel.size)⟩
theorem AnK.drew (h : AnK P G L A0 n c ro w W) : AnK P G L A0 n c ro w W.drew := ⟨h.bP, h.bR, h.bel.drew⟩
theorem AnK.put (h : AnK P G L A0 n c ro w W) (hG : P < G) (hw : w.heap.size ≤ G) (x y z : Value) : AnK P G L A0 n c ro w (((W.setCell ⟨G, 0, none⟩ x).setCell ⟨G, 1, none⟩ y).setCell ⟨G, 2, none⟩ z) :=
  ⟨((h.bP.far3 (show G ≠ P by omega) 0 x).far3 (show G ≠ P by omega) 1 y).far3 (show G ≠ P by omega) 2 z, (let ⟨_, _, _, k⟩ := h.bR; ⟨x, y, z, k.dgPut x y z⟩),
    ((h.bel.setCell (p := ⟨G, 0, none⟩) hw x).setCell (p := ⟨G, 1, none⟩) hw y).setCell (p := ⟨G, 2, none⟩) hw z⟩
theorem AnK.all (h : AnK P G L A0 n c ro w W) : W.cell? ⟨P, 0, none⟩ = some (.int .i64 L) ∧ W.cell? ⟨P, 1, none⟩ = some (.slice A0 n c) ∧ W.cell? ⟨P, 2, none⟩ = some (.int .i64 ro) ∧
    W.cell? ⟨G, 0, none⟩ = some (cellW W ⟨G, 0, none⟩) ∧ W.cell? ⟨G, 1, none⟩ = some (cellW W ⟨G, 1, none⟩) ∧ W.cell? ⟨G, 2, none⟩ = some (cellW W ⟨G, 2, none⟩) ∧
    W.frozen? ⟨G, 0, none⟩ = false ∧ W.frozen? ⟨G, 1, none⟩ = false ∧ W.frozen? ⟨G, 2, none⟩ = false ∧ AnK P G L A0 n c ro w W := by
  obtain ⟨a, b, d, k⟩ := h.bR
  obtain ⟨k0, k1, k2⟩ := k.trio
  obtain ⟨q0, q1, q2⟩ := h.bP.trio
  exact ⟨q0, q1, q2, by unfold cellW; rw [k0]; rfl, by unfold cellW; rw [k1]; rfl, by unfold cellW; rw [k2]; rfl, k.free 0, k.free 1, k.free 2, h⟩
end
theorem held10a {p0 p1 p2 p3 p4 p5 p6 p7 p8 K : Prop} (h : p0 ∧ p1 ∧ p2 ∧ p3 ∧ p4 ∧ p5 ∧ p6 ∧ p7 ∧ p8 ∧ K) : K := h.2.2.2.2.2.2.2.2.2

/-- The answer is stored. -/
theorem an_stored {G : Nat} {w w0 w4 : World} {A4 : Option Addr} {c4 : Nat} {L : Int} {D : Nat × List Dg.Nd} {x y z : Value} (hI : IntsAt w0.heap.size w4 A4 (D.2.length * 3) (nf D.2)) (hG : G < w0.heap.size) (hw : w.heap.size ≤ G) (hb : Below w.heap.size w (((w4.setCell ⟨G, 0, none⟩ x).setCell ⟨G, 1, none⟩ y).setCell ⟨G, 2, none⟩ z)) :
    AnPost true L D w (.returned (.tuple #[dgV L A4 D.2.length c4 (D.1 : Nat), .bool true])) (((w4.setCell ⟨G, 0, none⟩ x).setCell ⟨G, 1, none⟩ y).setCell ⟨G, 2, none⟩ z) :=
  AnPost.yes ((((hI.keep (keeps_set (p := ⟨G, 0, none⟩) hG _)).keep (keeps_set (p := ⟨G, 1, none⟩) hG _)).keep (keeps_set (p := ⟨G, 2, none⟩) hG _)).low (by omega)) hb

end Go.Proofs.Ytamjfcckgeakfaa
