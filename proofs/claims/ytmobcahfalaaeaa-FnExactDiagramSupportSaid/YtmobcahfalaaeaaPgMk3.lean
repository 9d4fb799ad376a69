/-
  Marking: the answer's own list, and whether it holds its marks.
-/
import Derived.Test.YtmobcahfalaaeaaPgMk2
namespace Go.Proofs.Ytmobcahfalaaeaa
open Go.RowKit Num

set_option maxRecDepth 100000 in
set_option maxHeartbeats 1600000 in
theorem markOwn_any (lo : Nat) (A0 : Option Addr) (n cap : Nat) (f : Nat → Int) (w : World) (hn : n ≤ 1048576) (hz : 0 < lo) (h : IntsAt lo w A0 n f) :
    Calls Try.prog 34 #[.slice A0 n cap, .int .i64 1] w fun e w' => e = .returned (.int .i64 (1 + (n : Int))) ∧ IntsAt lo w' A0 n (fun j => 1 + (j : Int)) ∧ Marks lo w.heap.size w w' := by
  have H := Lib.hid h
  clear h
  go_enter Try.func34, Try.ntmps34
  go_wp2_with fail
  go_loopg [1, 5] n (fun q kv iv wr => ∃ (k : Nat) (x : Int), k + q = n ∧ iv = .int .i64 (k : Nat) ∧ kv = .int .i64 x ∧ Hid (x = 1 + (k : Int)) ∧ Hid (∀ b off, A0 = some ⟨b, off, none⟩ → ∀ j, j < k → wr.cell? ⟨b, off + j, none⟩ = some (.int .i64 (1 + (j : Int)))) ∧ Marks lo w.heap.size w wr)
  case atStart => exact ⟨0, 1, by omega, rfl, rfl, Lib.hid (by omega), Lib.hid (fun b off _ j hj => absurd hj (Nat.not_lt_zero j)), Marks.refl _ _ _⟩
  case round =>
    obtain ⟨k, x, hkq, rfl, rfl, hx, hdone, hmk⟩ := hrel
    by_cases hk0 : k < n
    · have hn0 : 0 < n := by omega
      have hsh := H.out.sh hz (Nat.le_refl _)
      obtain ⟨b0, off0, e0, hfw, hcw⟩ := hsh hn0
      obtain ⟨b, off, rfl, hf, hc⟩ := (hsh.marks hmk) hn0
      injection e0 with e0
      injection e0 with e1 e2 _
      subst e1 e2
      obtain ⟨z0, r0⟩ := hc k hk0
      obtain ⟨y0, R0⟩ := hcw k hk0
      have f0 := hf.2.2 (off + k)
      have hf0 := hfw.1
      have hx1 : 0 ≤ x ∧ x ≤ 200000000000000000 := by have := hx.out; omega
      have w0 : IntKind.i64.wrap (x + 1) = x + 1 := IntWalk.i64_in _ (by omega)
      have hR := Lib.hid (World.cell?_setCell_same wr ⟨b, off + k, none⟩ (.int .i64 x) r0)
      clear hc hcw hf hfw hsh
      go_wp2_with fail
      go_roundg (gk - 1)
      case rel =>
        refine ⟨k + 1, _, by omega, by go_num, rfl, Lib.hid (by have := hx.out; omega), Lib.hid (fun b' off' e j hj => ?_), hmk.put R0 hf0 _⟩
        injection e with e
        injection e with e1 e2 _
        subst e1 e2
        by_cases hjk : j = k
        · subst hjk
          rw [hR.out, hx.out]
        · rw [World.cell?_setCell_other _ _ _ _ (by intro e; injection e with _ e2 _; omega)]
          exact hdone.out _ _ rfl j (by omega)
      case measure => omega
    · obtain rfl : k = n := by omega
      go_wp2_with fail
      go_ret
      refine ⟨congrArg (fun z => Ending.returned (.int .i64 z)) hx.out, fun h0 => ?_, hmk⟩
      obtain ⟨b, off, rfl, hs, _⟩ := H.out h0
      exact ⟨b, off, rfl, ⟨hs.ge, Nat.lt_of_lt_of_le hs.lt hmk.size, fun _ i => (hmk.fro b i hs.lt).trans (hs.fre hz i)⟩, hdone.out b off rfl⟩

set_option maxRecDepth 100000 in
set_option maxHeartbeats 1600000 in
theorem heldInts_any (lo : Nat) (A0 : Option Addr) (n cap : Nat) (w : World) (hn : n ≤ 1048576) (h : IntsAt lo w A0 n (fun j => 1 + (j : Int))) :
    Calls Try.prog 35 #[.slice A0 n cap, .int .i64 1] w fun e w' => e = .returned (.int .i64 (1 + (n : Int))) ∧ w = w' := by
  have H := Lib.hid h
  clear h
  go_enter Try.func35, Try.ntmps35
  go_wp2_with fail
  go_loopg [1, 5] n (fun q kv iv wr => ∃ (k : Nat) (x : Int), k + q = n ∧ iv = .int .i64 (k : Nat) ∧ kv = .int .i64 x ∧ Hid (x = 1 + (k : Int)) ∧ w = wr)
  case atStart => exact ⟨0, 1, by omega, rfl, rfl, Lib.hid (by omega), rfl⟩
  case round =>
    obtain ⟨k, x, hkq, rfl, rfl, hx, rfl⟩ := hrel
    by_cases hk0 : k < n
    · obtain ⟨b, off, rfl, hb, r0⟩ := H.out.at_ hk0
      rw [← hx.out] at r0
      have hx1 : 0 ≤ x ∧ x ≤ 200000000000000000 := by have := hx.out; omega
      have w0 : IntKind.i64.wrap (x + 1) = x + 1 := IntWalk.i64_in _ (by omega)
      have n0 : (x != x) = false := bne_self_eq_false _
      go_wp2_with fail
      go_roundg (gk - 1)
      case rel => exact ⟨k + 1, _, by omega, by go_num, rfl, Lib.hid (by have := hx.out; omega), rfl⟩
      case measure => omega
    · obtain rfl : k = n := by omega
      go_wp2_with fail
      go_ret
      exact ⟨congrArg (fun z => Ending.returned (.int .i64 z)) hx.out, rfl⟩

/-- Back to the numbers that were there: what is older than the marks stays. -/
theorem IntsAt.old {l B : Nat} {W0 w : World} {A : Option Addr} {n : Nat} {f : Nat → Int} (h : IntsAt l W0 A n f) (hb : Below B W0 w) (hB : W0.heap.size ≤ B) : IntsAt l w A n f := h.below hb hB

end Go.Proofs.Ytmobcahfalaaeaa
