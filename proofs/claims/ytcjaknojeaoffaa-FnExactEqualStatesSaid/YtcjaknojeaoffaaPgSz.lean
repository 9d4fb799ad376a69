/-
  Programs: the law's sizes: where the size is not negative, every length is at most 2^20.
-/
import Derived.Test.YtcjaknojeaoffaaPgEq
namespace Go.Proofs.Ytcjaknojeaoffaa
open Go.RowKit Num

/-- A size's post: what is left, negative or with every length bounded. -/
def Sz (left : Int) (Q : Prop) (w : World) (e : Ending) (w' : World) : Prop := ∃ r : Int, e = .returned (.int .i64 r) ∧ Hid (-1 ≤ r ∧ r ≤ left ∧ (0 ≤ r → Q)) ∧ Below w.heap.size w w'

/-- All lengths fit in an int. -/
structure Stm.fits (s : Stm) : Prop where
  nc : s.nc ≤ 9223372036854775807
  nt : s.nt ≤ 9223372036854775807
  ne : s.ne ≤ 9223372036854775807
structure Prg.fits (P : Prg) : Prop where
  nv : P.nv ≤ 9223372036854775807
  nx : P.nx ≤ 9223372036854775807
  ns : P.ns ≤ 9223372036854775807
  np : P.np ≤ 9223372036854775807
  nb : P.nb ≤ 9223372036854775807
  vn : ∀ j, j < P.nv → (P.vn j).size ≤ 9223372036854775807
  pn : ∀ j, j < P.np → (P.pn j).size ≤ 9223372036854775807
  pl : ∀ j, j < P.np → P.pl j ≤ 9223372036854775807
  st : ∀ j, j < P.ns → (P.st j).fits

set_option maxRecDepth 100000 in
theorem szIntS_any (A0 : Option Addr) (n cap : Nat) (left : Int) (w : World) (hn : n ≤ 9223372036854775807) (h0 : 0 ≤ left) (h1 : left ≤ 1048576) :
    Calls Try.prog 16 #[.slice A0 n cap, .int .i64 left] w (Sz left (n ≤ 1048576) w) := by
  by_cases h : (n : Int) ≤ left
  · have h2 : ¬ (left - (n : Int) < 0) := by omega
    go_enter Try.func16, Try.ntmps16
    go_wp2_with fail
    all_goals first
      | (go_ret; exact ⟨left - n, rfl, Lib.hid ⟨by omega, by omega, fun _ => by omega⟩, Below.refl _ _⟩)
      | (exfalso; omega)
  · have h2 : left - (n : Int) < 0 := by omega
    go_enter Try.func16, Try.ntmps16
    go_wp2_with fail
    all_goals first
      | (go_ret; exact ⟨-1, rfl, Lib.hid ⟨by omega, by omega, fun _ => by omega⟩, Below.refl _ _⟩)
      | (exfalso; omega)

end Go.Proofs.Ytcjaknojeaoffaa
