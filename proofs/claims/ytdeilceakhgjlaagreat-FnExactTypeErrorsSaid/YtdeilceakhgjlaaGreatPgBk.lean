/-
  slices.Backward over expressions. (Written by gen_pgback.py.)
-/
import Derived.Test.YtdeilceakhgjlaaGreatPgVoA
import Derived.RangeFuncNested
import Derived.RangeFuncWrites
import Derived.RangeFuncBound
import Derived.RangeFuncCalls
import Derived.RangeFuncLeaves
import Derived.OwnWalkIn
import Derived.TacticsInMore
import Derived.LoopNIn
import Derived.LoopIn
import Derived.BigFrameIn
import Derived.BigGuardPartIn
import Derived.RangeFuncBox
namespace Go.Proofs.YtdeilceakhgjlaaGreat
open Go.RowKit Num

attribute [local go_sem] Oper.semAt_some

set_option maxHeartbeats 1000000 in
/-- slices.Backward: the slice is boxed, the function value captures the box. -/
theorem back_in (F : Fence) (n : Nat) (hf : F.fn 187) (hro : F.round = none) (a : Option Addr) (len cap : Nat) (w : World) :
    CallsIn F n Tryz.prog 187 #[.slice a len cap] w fun e w' => e = .returned (.func (.func 211) #[] #[.pointer (some ⟨w.heap.size, 0, none⟩)]) ∧ w' = w.alloc (.cells #[.slice a len cap] 34) := by
  refine callsIn_of_wp Tryz.func187 rfl hf ?_ hro
  simp only [Tryz.ntmps187, List.size_toArray, List.length_cons, List.length_nil, Nat.reduceAdd, Nat.reduceSub, Array.replicate_succ, Array.replicate_zero, List.push_toArray, List.append_toArray, List.nil_append, List.cons_append]
  gi_wp2
  go_ret
  exact ⟨rfl, rfl⟩

/-- What has come when k rounds from the last to the first are over. -/
def downto (len k : Nat) : List Nat := (List.range k).map fun i => len - 1 - i
theorem downto_succ (len k : Nat) : downto len (k + 1) = downto len k ++ [len - 1 - k] := by simp [downto, List.range_succ]
theorem downto_length (len k : Nat) : (downto len k).length = k := by simp [downto]
/-- What the range hands over: an index and the expression there. -/
def encX (X : Nat → Nat → Int) (j : Nat) : Array Value := #[Value.int .i64 (j : Int), .agg #[.int .i64 (X j 0), .int .i64 (X j 1), .int .i64 (X j 2), .int .i64 (X j 3)]]

/-- What a round keeps: all below n₀, and the box Bs. -/
def Kept (Bs n₀ : Nat) (W W' : World) : Prop := Below n₀ W W' ∧ ∀ v, W.cell? ⟨Bs, 0, none⟩ = some v → W'.cell? ⟨Bs, 0, none⟩ = some v
theorem Kept.trans {Bs n₀ : Nat} {A B C : World} (h : Kept Bs n₀ A B) (k : Kept Bs n₀ B C) : Kept Bs n₀ A C := ⟨h.1.trans k.1, fun v e => k.2 v (h.2 v e)⟩
theorem Kept.refl (Bs n₀ : Nat) (W : World) : Kept Bs n₀ W W := ⟨Below.refl _ _, fun _ e => e⟩
theorem Kept.put {Bs n₀ : Nat} {w : World} (h : n₀ ≤ w.heap.size) (hB : Bs < w.heap.size) (W : World) (l : Nat) (o o' : Obj) (hl : w.heap.size ≤ l) (ho : W.heap[l]? = some o) (hc : o.isCells = false) (hk : o.isWalk = false) : Kept Bs n₀ W (W.putObj l o') :=
  ⟨belowK_b (w := w) h W l o o' hl ho hc hk, fun v e => by
    have h1 := belowK_b (w := w) (Nat.le_refl _) W l o o' hl ho hc hk
    exact (h1.cell (p := ⟨Bs, 0, none⟩) hB).trans e⟩

/-- An index within the list. -/
abbrev Ix (n : Nat) := { j : Nat // j < n }

set_option maxRecDepth 100000 in
set_option maxHeartbeats 2000000 in
/-- slices.Backward's closure: the indices from the last to the first, each with its element. -/
theorem back1_in (F : Fence) (n : Nat) (hf : F.fn 211) (hro : F.round = none) (hn : 1 ≤ n) (l Bs n₀ b off len cap : Nat) (X : Nat → Nat → Int) (hreach : len ≤ 1099511627776) (hb : b < n₀) (J Jx : List (Ix len) → World → Prop)
    (hY : ∀ pre (x : Ix len) W, J pre W → pre.length < len → YieldAt F (n - 1) Tryz.prog l (encX X x.1) W fun e W' =>
      (e = .returned (.bool true) ∧ J (pre ++ [x]) W' ∧ Kept Bs n₀ W W') ∨ (e = .returned (.bool false) ∧ Jx (pre ++ [x]) W'))
    (W : World) (hBs : W.cell? ⟨Bs, 0, none⟩ = some (.slice (some ⟨b, off, none⟩) len cap)) (hc : ∀ j, j < len → ∀ c, c < 4 → W.cell? ⟨b, off + (j * 4 + c), none⟩ = some (.int .i64 (X j c))) (h0 : J [] W) :
    CallsIn F n Tryz.prog 211 #[.func (.yield l) #[] #[], .pointer (some ⟨Bs, 0, none⟩)] W fun e W' => (∃ v, e = .returned v) ∧
      ((∃ ys, ys.map (fun x : Ix len => x.1) = downto len len ∧ J ys W') ∨ (∃ pre, True ∧ Jx pre W')) := by
  refine callsIn_of_wp Tryz.func211 rfl hf ?_ hro
  simp only [Tryz.ntmps211, List.size_toArray, List.length_cons, List.length_nil, Nat.reduceAdd, Nat.reduceSub, Array.replicate_succ, Array.replicate_zero, List.push_toArray, List.append_toArray, List.nil_append, List.cons_append]
  gi_wp2
  have Hc := Lib.hid hc; clear hc
  gi_loopw [3] (fun i wr => ∃ (k : Nat) (ys : List (Ix len)), k ≤ len ∧ i = .int .i64 ((len : Int) - 1 - k) ∧ Hid (ys.map (fun x : Ix len => x.1) = downto len k) ∧ J ys wr ∧ Kept Bs n₀ W wr)
    (fun i _ => ((intOf i) + 1).toNat)
  case atStart => exact ⟨0, [], Nat.zero_le _, by simp, Lib.hid rfl, h0, Kept.refl _ _ _⟩
  case round =>
    obtain ⟨k, ys, hk, rfl, hys, hJs, hnx⟩ := hrel
    have hBw := hnx.2 _ hBs
    have hyl : ys.length = k := by have := congrArg List.length hys.out; rw [List.length_map, downto_length] at this; exact this
    by_cases hlt : k < len
    · obtain ⟨xk, hxk⟩ : ∃ xk : Ix len, xk.1 = len - 1 - k := ⟨⟨len - 1 - k, by omega⟩, rfl⟩
      obtain ⟨fn, tmps, assign, body, hy, hR⟩ := hY ys xk wr hJs (by omega)
      simp only [encX] at hy
      have Hys := Lib.hid (show (ys ++ [xk]).map (fun x : Ix len => x.1) = downto len (k + 1) by rw [List.map_append, hys.out, downto_succ, ← hxk]; rfl)
      obtain ⟨m, hm⟩ : ∃ m, m = xk.1 := ⟨_, rfl⟩
      have hml2 : m < len := by rw [hm]; exact xk.2
      have hmi : (len : Int) - 1 - (k : Int) = (m : Int) := by omega
      have hcx0 : wr.cell? ⟨b, off + m * 4, none⟩ = some (.int .i64 (X m 0)) := (hnx.1.cell (p := ⟨b, off + m * 4, none⟩) hb).trans (Hc.out m (by omega) 0 (by omega))
      have hcx1 : wr.cell? ⟨b, off + m * 4 + 1, none⟩ = some (.int .i64 (X m 1)) := (hnx.1.cell (p := ⟨b, off + m * 4 + 1, none⟩) hb).trans (Hc.out m (by omega) 1 (by omega))
      have hcx2 : wr.cell? ⟨b, off + m * 4 + 2, none⟩ = some (.int .i64 (X m 2)) := (hnx.1.cell (p := ⟨b, off + m * 4 + 2, none⟩) hb).trans (Hc.out m (by omega) 2 (by omega))
      have hcx3 : wr.cell? ⟨b, off + m * 4 + 3, none⟩ = some (.int .i64 (X m 3)) := (hnx.1.cell (p := ⟨b, off + m * 4 + 3, none⟩) hb).trans (Hc.out m (by omega) 3 (by omega))
      rw [← hm] at hy
      rw [hmi]
      have HR := Lib.hid hR
      have Hmi := Lib.hid hmi
      clear hm hmi hR hys hyl hxk
      gi_wp2
      refine HR.out.mono ?_
      rintro e W3 (⟨rfl, hJ3, hk3⟩ | ⟨rfl, hJx3⟩)
      · gi_wp2
        go_roundw
        case rel => exact ⟨k + 1, _, by omega, by have := Hmi.out; simp <;> omega, Hys, hJ3, hnx.trans hk3⟩
        case measure => simp [intOf] <;> omega
      · gi_wp2
        refine bodyPost_ret (results_none rfl _ _ _) rfl ?_
        exact ⟨⟨_, rfl⟩, .inr ⟨_, trivial, hJx3⟩⟩
    · obtain rfl : k = len := by omega
      have hmi : (k : Int) - 1 - (k : Int) = -1 := by omega
      rw [hmi]
      gi_wp2
      go_end0
      exact ⟨⟨_, rfl⟩, .inl ⟨_, hys.out, hJs⟩⟩

theorem back_stops (F : Fence) (n : Nat) (hf : F.fn 211) (hro : F.round = none) (hn : 1 ≤ n) (Bs n₀ b off len cap : Nat) (X : Nat → Nat → Int) (hreach : len ≤ 1099511627776) (w : World) (hBs : Bs < w.heap.size) (hn₀ : n₀ ≤ w.heap.size) (hb : b < n₀)
    (hc : w.cell? ⟨Bs, 0, none⟩ = some (.slice (some ⟨b, off, none⟩) len cap)) (hX : ∀ j, j < len → ∀ c, c < 4 → w.cell? ⟨b, off + (j * 4 + c), none⟩ = some (.int .i64 (X j c))) :
    SeqStopsK F n Tryz.prog 211 #[.pointer (some ⟨Bs, 0, none⟩)] (fun x : Ix len => encX X x.1) (Kept Bs n₀) (fun ys => ys.map (fun x : Ix len => x.1) = downto len len) (fun _ => True) len w := fun l J Jx W hW _ _ hY h0 => by
  have hc' := (hW.cell (p := ⟨Bs, 0, none⟩) hBs).trans hc
  refine (back1_in F n hf hro hn l Bs n₀ b off len cap X hreach hb J Jx hY W hc' (fun j hj c hc => (hW.cell (p := ⟨b, off + (j * 4 + c), none⟩) (Nat.lt_of_lt_of_le hb hn₀)).trans (hX j hj c hc)) h0).mono ?_
  rintro e W' ⟨he, ⟨ys, hys, hj⟩ | ⟨pre, _, hj⟩⟩
  · exact ⟨he, .inl ⟨_, hys, hj⟩⟩
  · exact ⟨he, .inr ⟨_, trivial, hj⟩⟩

end Go.Proofs.YtdeilceakhgjlaaGreat
