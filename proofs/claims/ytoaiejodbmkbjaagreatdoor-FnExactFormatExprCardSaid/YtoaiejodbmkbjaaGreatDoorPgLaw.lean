/-
  What the laws on functions from a program have in common.
-/
import Derived.Test.YtoaiejodbmkbjaaGreatDoorPgVi
import Derived.Deep.RegionHeld3
namespace Go.Proofs.YtoaiejodbmkbjaaGreatDoor
open Go.RowKit Num

theorem held12p {W W' : World} {p0 p1 p2 p3 p4 p5 p6 p7 p8 p9 p10 p11 : Prop} (h : p0 ∧ p1 ∧ p2 ∧ p3 ∧ p4 ∧ p5 ∧ p6 ∧ p7 ∧ p8 ∧ p9 ∧ p10 ∧ p11 ∧ Below W.heap.size W W') : Below W.heap.size W W' := h.2.2.2.2.2.2.2.2.2.2.2.2

theorem toPg_any (lo : Nat) (P : Prg) (Av Ax As Ap Ab : Option Addr) (cv cx cs cp cb : Nat) (w : World) (hs : P.small) (h : PgAt lo w Av Ax As Ap Ab P) :
    Calls Tryz.prog 6 #[.agg #[.slice Av P.nv cv, .slice Ax P.nx cx, .slice As P.ns cs, .slice Ap P.np cp, .slice Ab P.nb cb, .int .i64 P.fuel]] w fun e w' => (∃ g1 g2 g3 g4 g5, e = .returned (.agg #[.slice (some ⟨g1, 0, none⟩) P.nv P.nv, .slice (some ⟨g2, 0, none⟩) P.nx P.nx, .slice (some ⟨g3, 0, none⟩) P.ns P.ns, .slice (some ⟨g4, 0, none⟩) P.np P.np, .slice (some ⟨g5, 0, none⟩) P.nb P.nb, .int .i64 P.fuel]) ∧ PgAt w.heap.size w' (some ⟨g1, 0, none⟩) (some ⟨g2, 0, none⟩) (some ⟨g3, 0, none⟩) (some ⟨g4, 0, none⟩) (some ⟨g5, 0, none⟩) P) ∧ Below w.heap.size w w' :=
  (toProgram_any lo P Av Ax As Ap Ab cv cx cs cp cb w hs h).mono fun _ _ ⟨⟨g1, g2, g3, g4, g5, he, h1, h2, h3, h4, h5⟩, hb⟩ => ⟨⟨g1, g2, g3, g4, g5, he, ⟨h1, h2, h3, h4, h5⟩⟩, hb⟩

end Go.Proofs.YtoaiejodbmkbjaaGreatDoor
