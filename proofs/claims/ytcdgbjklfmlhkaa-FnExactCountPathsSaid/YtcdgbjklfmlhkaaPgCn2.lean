/-
  The bound on the number of paths: what is said of a statement's and of a block's bound; limits and powers. (Written by gen_pgcn.py.)
-/
import Derived.Test.YtcdgbjklfmlhkaaPgCn1
namespace Go.Proofs.Ytcdgbjklfmlhkaa
open Go.RowKit Num

/-- A statement at depth d, with fuel f, has its bound: the model. -/
def SCS (P : Prg) (d f : Nat) : Prop := ∀ (lo i : Nat) (Av Ax As Ap Ab A3 A4 A5 : Option Addr) (cv cx cs cp cb c3 c4 c5 : Nat) (w : World), PgAt lo w Av Ax As Ap Ab P → i < P.ns → P.ns ≤ i + d → IntsAt lo w A4 (P.st i).nt (P.st i).th → IntsAt lo w A5 (P.st i).ne (P.st i).el →
  Calls Try.prog 121 #[.agg #[.slice Av P.nv cv, .slice Ax P.nx cx, .slice As P.ns cs, .slice Ap P.np cp, .slice Ab P.nb cb, .int .i64 P.fuel], .agg #[.int .i64 (P.st i).kind, .int .i64 (P.st i).var, .int .i64 (P.st i).ex, .slice A3 (P.st i).nc c3, .slice A4 (P.st i).nt c4, .slice A5 (P.st i).ne c5, .int .i64 (P.st i).times, .int .i64 (P.st i).proc], .int .i64 (f : Nat)] w fun e w' => e = .returned (.int .i64 (pD P (pF P f) d (i : Nat))) ∧ Below w.heap.size w w'
/-- A block whose statements are at depth d has its bound. -/
def BCS (P : Prg) (d f : Nat) : Prop := ∀ (lo n : Nat) (b : Nat → Int) (Av Ax As Ap Ab A1 : Option Addr) (cv cx cs cp cb c1 : Nat) (w : World), PgAt lo w Av Ax As Ap Ab P → n ≤ 1048576 → (∀ j, j < n → 0 ≤ b j ∧ b j < (P.ns : Int) ∧ (P.ns : Int) ≤ b j + (d : Int)) → IntsAt lo w A1 n b →
  Calls Try.prog 73 #[.agg #[.slice Av P.nv cv, .slice Ax P.nx cx, .slice As P.ns cs, .slice Ap P.np cp, .slice Ab P.nb cb, .int .i64 P.fuel], .slice A1 n c1, .int .i64 (f : Nat)] w fun e w' => e = .returned (.int .i64 (blkV (pD P (pF P f) d) b n)) ∧ Below w.heap.size w w'
/-- A statement at depth d, with fuel f, has its bound: the program. -/
def SCI (P : Prg) (d f : Nat) : Prop := ∀ (lo i : Nat) (Av Ax As Ap Ab A3 A4 A5 : Option Addr) (cv cx cs cp cb c3 c4 c5 : Nat) (w : World), PgAt lo w Av Ax As Ap Ab P → i < P.ns → P.ns ≤ i + d → IntsAt lo w A4 (P.st i).nt (P.st i).th → IntsAt lo w A5 (P.st i).ne (P.st i).el →
  Calls Try.prog 123 #[.agg #[.slice Av P.nv cv, .slice Ax P.nx cx, .slice As P.ns cs, .slice Ap P.np cp, .slice Ab P.nb cb, .int .i64 P.fuel], .agg #[.int .i64 (P.st i).kind, .int .i64 (P.st i).var, .int .i64 (P.st i).ex, .slice A3 (P.st i).nc c3, .slice A4 (P.st i).nt c4, .slice A5 (P.st i).ne c5, .int .i64 (P.st i).times, .int .i64 (P.st i).proc], .int .i64 (f : Nat)] w fun e w' => e = .returned (.int .i64 (pD P (pF P f) d (i : Nat))) ∧ Below w.heap.size w w'
/-- A block whose statements are at depth d has its bound. -/
def BCI (P : Prg) (d f : Nat) : Prop := ∀ (lo n : Nat) (b : Nat → Int) (Av Ax As Ap Ab A1 : Option Addr) (cv cx cs cp cb c1 : Nat) (w : World), PgAt lo w Av Ax As Ap Ab P → n ≤ 1048576 → (∀ j, j < n → 0 ≤ b j ∧ b j < (P.ns : Int) ∧ (P.ns : Int) ≤ b j + (d : Int)) → IntsAt lo w A1 n b →
  Calls Try.prog 74 #[.agg #[.slice Av P.nv cv, .slice Ax P.nx cx, .slice As P.ns cs, .slice Ap P.np cp, .slice Ab P.nb cb, .int .i64 P.fuel], .slice A1 n c1, .int .i64 (f : Nat)] w fun e w' => e = .returned (.int .i64 (blkV (pD P (pF P f) d) b n)) ∧ Below w.heap.size w w'

theorem leastC_any (a b : Int) (w : World) : Calls Try.prog 126 #[.int .i64 a, .int .i64 b] w fun e w' => e = .returned (.int .i64 (min a b)) ∧ w = w' := by
  by_cases h : a < b
  · have hd : decide (a < b) = true := decide_eq_true h
    have hm : min a b = a := by omega
    rw [hm]
    go_enter Try.func126, Try.ntmps126
    go_wp2_with fail
    go_ret
    exact ⟨rfl, rfl⟩
  · have hd : decide (a < b) = false := decide_eq_false h
    have hm : min a b = b := by omega
    rw [hm]
    go_enter Try.func126, Try.ntmps126
    go_wp2_with fail
    go_ret
    exact ⟨rfl, rfl⟩
theorem cap_any (a : Int) (w : World) : Calls Try.prog 120 #[.int .i64 a] w fun e w' => e = .returned (.int .i64 (lim a)) ∧ w = w' := by
  have C := Lib.hid (leastC_any a 1000001 w)
  go_enter Try.func120, Try.ntmps120
  go_wp2_with (go_at_call 126; refine C.out.mono ?_; rintro e w' ⟨rfl, rfl⟩)
  go_ret
  exact ⟨rfl, rfl⟩
theorem lim_any (a : Int) (w : World) : Calls Try.prog 122 #[.int .i64 a] w fun e w' => e = .returned (.int .i64 (lim a)) ∧ w = w' := by
  go_enter Try.func122, Try.ntmps122
  go_wp2_with fail
  all_goals go_ret
  all_goals exact ⟨congrArg (fun z => Ending.returned (.int .i64 z)) (show _ = lim a by unfold lim; omega), rfl⟩

set_option maxRecDepth 100000 in
theorem powers_any (x : Int) (t : Nat) (w : World) (hx : Bd x) (ht : t ≤ 4) : Calls Try.prog 151 #[.int .i64 x, .int .i64 (t : Nat)] w fun e w' => e = .returned (.tuple #[.int .i64 (pwV x t), .int .i64 (smV x t)]) ∧ w = w' := by
  have HX := Lib.hid hx
  clear hx
  go_enter Try.func151, Try.ntmps151
  go_wp2_with fail
  go_loopg [6, 7, 9] t (fun q pv sv iv wr => ∃ (k : Nat) (y z : Int), k + q = t ∧ iv = .int .i64 (k : Nat) ∧ pv = .int .i64 y ∧ sv = .int .i64 z ∧ Hid (y = pwV x k) ∧ Hid (z = smV x k) ∧ w = wr)
  case atStart => exact ⟨0, 1, 1, by omega, rfl, rfl, rfl, Lib.hid rfl, Lib.hid rfl, rfl⟩
  case round =>
    obtain ⟨k, y, z, hk, rfl, rfl, rfl, hy, hz, rfl⟩ := hrel
    by_cases hk0 : k < t
    · have b1 := bd_mul (by have := pwV_bd HX.out k; rw [← hy.out] at this; exact this) HX.out
      have b2 := smV_bd HX.out k
      have b3 := pwV_bd HX.out (k + 1)
      rw [← hz.out] at b2
      have hl : lim (y * x) = pwV x (k + 1) := by rw [pwV, hy.out]
      rw [← hl] at b3
      obtain ⟨b2a, b2b⟩ := b2
      obtain ⟨b3a, b3b⟩ := b3
      obtain ⟨u, hu⟩ : ∃ u, u = lim (y * x) := ⟨_, rfl⟩
      rw [← hu] at b3a b3b hl
      have w1 : IntKind.i64.wrap (y * x) = y * x := IntWalk.i64_in _ (by omega)
      have w2 : IntKind.i64.wrap (z + u) = z + u := IntWalk.i64_in _ (by omega)
      have C1 : Hid (∀ W, Calls Try.prog 122 #[.int .i64 (y * x)] W fun e w' => e = .returned (.int .i64 u) ∧ W = w') := Lib.hid fun W => by rw [hu]; exact lim_any (y * x) W
      have C2 : Hid (∀ W, _) := Lib.hid fun W => lim_any (z + u) W
      have HL := Lib.hid hl
      have HU := Lib.hid hu
      clear b1 b2a b2b b3a b3b hl hu
      go_wp2_with (first
        | (go_at_call 122; with_reducible refine (C1.out _).mono ?_; rintro e w' ⟨rfl, rfl⟩)
        | (go_at_call 122; with_reducible refine (C2.out _).mono ?_; rintro e w' ⟨rfl, rfl⟩))
      go_roundg (gk - 1)
      case rel => exact ⟨k + 1, _, _, by omega, by go_num, rfl, rfl, HL, Lib.hid (by rw [smV, hz.out, HL.out]), rfl⟩
      case measure => omega
    · obtain rfl : k = t := by omega
      go_wp2_with fail
      go_ret2
      exact ⟨by rw [hy.out, hz.out]; rfl, rfl⟩

end Go.Proofs.Ytcdgbjklfmlhkaa
