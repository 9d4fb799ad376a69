/-
  The bound on the number of paths: the mathematics.
-/
import Derived.Test.YtcdgbjklfmlhkaaPgBlk
namespace Go.Proofs.Ytcdgbjklfmlhkaa
open Go.RowKit Num

def lim (n : Int) : Int := min n 1000001
/-- The bound of a block's first statements, from the bounds of each. -/
def blkV (g : Int → Int) (b : Nat → Int) : Nat → Int
  | 0 => 1
  | k + 1 => lim (blkV g b k * g (b k))
/-- A power of a bound, and the sum of its powers. -/
def pwV (x : Int) : Nat → Int
  | 0 => 1
  | k + 1 => lim (pwV x k * x)
def smV (x : Int) : Nat → Int
  | 0 => 1
  | k + 1 => lim (smV x k + pwV x (k + 1))
/-- A statement's bound, from those of the statements in its blocks and those of calls. -/
def stV (s : Stm) (g call : Int → Int) : Int :=
  if s.kind = 3 then (min s.nc 1048576 : Nat) else if s.kind = 5 then lim (blkV g s.th s.nt + blkV g s.el s.ne) else if s.kind = 6 then pwV (blkV g s.th s.nt) s.times.toNat
  else if s.kind = 7 then smV (blkV g s.th s.nt) s.times.toNat else if s.kind = 8 then call s.proc else 1
/-- The bound of statement i, nested to depth d. -/
def pD (P : Prg) (call : Int → Int) : Nat → Int → Int
  | 0, _ => 1
  | d + 1, i => stV (P.st i.toNat) (pD P call d) call
/-- The bound of a call of procedure q that has fuel f. -/
def pF (P : Prg) : Nat → Int → Int
  | 0 => fun _ => 1
  | f + 1 => fun q => blkV (pD P (pF P f) P.ns) (P.pb q.toNat) (P.pl q.toNat)

/-- Small enough, so that nothing wraps. -/
def Bd (x : Int) : Prop := 0 ≤ x ∧ x ≤ 1048576
theorem Bd.one : Bd 1 := ⟨by omega, by omega⟩
theorem bd_lim {x : Int} (h : 0 ≤ x) : Bd (lim x) := by unfold lim Bd; omega
theorem bd_mul {x y : Int} (hx : Bd x) (hy : Bd y) : 0 ≤ x * y ∧ x * y ≤ 1099511627776 :=
  ⟨Int.mul_nonneg hx.1 hy.1, by have := Int.mul_le_mul hx.2 hy.2 hy.1 (by omega); omega⟩
theorem blkV_bd {g : Int → Int} {b : Nat → Int} : ∀ {n : Nat}, (∀ j, j < n → Bd (g (b j))) → Bd (blkV g b n)
  | 0, _ => .one
  | n + 1, h => bd_lim (bd_mul (blkV_bd fun j hj => h j (by omega)) (h n (by omega))).1
theorem pwV_bd {x : Int} (hx : Bd x) : ∀ n : Nat, Bd (pwV x n)
  | 0 => .one
  | n + 1 => bd_lim (bd_mul (pwV_bd hx n) hx).1
theorem smV_bd {x : Int} (hx : Bd x) : ∀ n : Nat, Bd (smV x n)
  | 0 => .one
  | n + 1 => bd_lim (by have h1 := smV_bd hx n; have h2 := pwV_bd hx (n + 1); unfold Bd at h1 h2; omega)
theorem stV_bd {s : Stm} {g call : Int → Int} (hg : ∀ j, Bd (g j)) (hc : ∀ j, Bd (call j)) : Bd (stV s g call) := by
  unfold stV
  have b1 : Bd (blkV g s.th s.nt) := blkV_bd fun j _ => hg _
  have b2 : Bd (blkV g s.el s.ne) := blkV_bd fun j _ => hg _
  repeat' split
  · exact ⟨by omega, by omega⟩
  · exact bd_lim (by unfold Bd at b1 b2; omega)
  · exact pwV_bd b1 _
  · exact smV_bd b1 _
  · exact hc _
  · exact .one
theorem pD_bd {P : Prg} {call : Int → Int} (hc : ∀ j, Bd (call j)) : ∀ (d : Nat) (i : Int), Bd (pD P call d i)
  | 0, _ => .one
  | d + 1, _ => stV_bd (fun _ => pD_bd hc d _) hc
theorem pF_bd {P : Prg} : ∀ (f : Nat) (q : Int), Bd (pF P f q)
  | 0, _ => .one
  | f + 1, _ => blkV_bd fun _ _ => pD_bd (pF_bd f) _ _

end Go.Proofs.Ytcdgbjklfmlhkaa
