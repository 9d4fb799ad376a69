/-
  The program's assignment at an index of a truth table.
-/
import Derived.Test.YtfeejdbkolpjoaaDoorDnC
import Derived.RangeFuncNested
import Derived.RangeFuncWrites
import Derived.RangeFuncBound
import Derived.RangeFuncCalls
import Derived.RangeFuncLeaves
import Derived.OwnWalkIn
import Derived.TacticsInMore
import Derived.LoopNIn
import Derived.LoopIn
import Derived.BigFrameIn
import Derived.BigGuardPartIn
import Derived.RangeFuncBox
import Derived.Laws.IdiomStrings
import Derived.Shelf.Abstract
namespace Go.Proofs.YtfeejdbkolpjoaaDoor
open Go.RowKit Num Go.Shelf

attribute [local go_sem] Oper.semAt_some

/-- The table of math/bits.TrailingZeros64 stands in its variable. -/
def TabD (w : World) : Prop := ∀ j, j < Lib.deBruijn64tab.length → w.cell? ⟨1, j, none⟩ = some (.int .u8 (Lib.deBruijn64tab.getD j 0))

theorem TabD.below {w w' : World} (h : TabD w) (hb : Below w.heap.size w w') : TabD w' := fun j hj => by
  have h1 := h j hj
  rw [hb.cell (p := ⟨1, j, none⟩) (World.block_lt_of_cell? w _ h1)]
  exact h1

set_option maxHeartbeats 1000000 in
theorem tzD_core (x k idx : Nat) (w : World) (hx0 : ((x : Int) == 0) = false)
    (key : IntKind.u64.wrap (bits BinOp.and IntKind.u64 (x : Int) (IntKind.u64.wrap (-(x : Int))) * 285870213051353865) / 288230376151711744 = (idx : Int))
    (hi : idx < 64) (hk : k < 64) (hcell : w.cell? ⟨1, idx, none⟩ = some (.int .u8 k)) :
    Calls Tryd.prog 19 #[.int .u64 x] w fun e w' => e = .returned (.int .i64 k) ∧ w = w' := by
  go_enter Tryd.func19, Tryd.ntmps19
  go_wp2_with (simp only [key])
  go_ret
  exact ⟨rfl, rfl⟩

theorem tzD (x : Nat) (hx : x < 18446744073709551616) (h0 : x ≠ 0) (w : World) (hT : TabD w) :
    Calls Tryd.prog 19 #[.int .u64 x] w fun e w' => e = .returned (.int .i64 (Lib.ctz 64 x)) ∧ w = w' := by
  obtain ⟨hlow, hk⟩ := Lib.lowest_bit 64 x h0 hx
  obtain ⟨hi, htab⟩ := Lib.deBruijn64_at _ hk
  have hcell := hT _ hi
  rw [htab] at hcell
  exact tzD_core x _ _ w (by simp; omega) (tz64_key x _ hx h0 hlow) hi hk hcell

theorem ctz_pow : ∀ n, n < 11 → Lib.ctz 64 (2 ^ n) = n := of_decide_eq_true (by kernel_rfl)

set_option maxRecDepth 100000 in
theorem tz_any (x n : Nat) (w : World) (hn : n ≤ 10) (hx : x = 2 ^ n) (hT : TabD w) :
    Calls Tryd.prog 11 #[.int .u64 (x : Nat)] w fun e w' => e = .returned (.int .i64 (n : Nat)) ∧ w = w' := by
  have hx1 : x ≤ 1024 := by rw [hx]; exact Nat.le_trans (Nat.pow_le_pow_right (by omega) hn) (by decide)
  have hx0 : x ≠ 0 := by rw [hx]; exact Nat.ne_of_gt (Nat.pow_pos (by omega))
  have c := tzD x (by omega) hx0 w hT
  have hc : Lib.ctz 64 x = n := by rw [hx]; exact ctz_pow n (by omega)
  rw [hc] at c
  have C := Lib.hid c
  have wx : IntKind.u64.wrap (x : Int) = (x : Int) := IntWalk.u64_in _ (by omega)
  clear hx hT hc c
  go_enter Tryd.func11, Tryd.ntmps11
  go_wp2_with (go_at_call 19; refine C.out.mono ?_; rintro e w1 ⟨rfl, rfl⟩)
  go_ret
  exact ⟨rfl, rfl⟩

set_option maxHeartbeats 1000000 in
/-- slices.Backward: the slice is boxed, the function value captures the box. -/
theorem backD_in (F : Fence) (n : Nat) (hf : F.fn 17) (hro : F.round = none) (a : Option Addr) (len cap : Nat) (w : World) :
    CallsIn F n Tryd.prog 17 #[.slice a len cap] w fun e w' => e = .returned (.func (.func 26) #[] #[.pointer (some ⟨w.heap.size, 0, none⟩)]) ∧ w' = w.alloc (.cells #[.slice a len cap] 33) := by
  refine callsIn_of_wp Tryd.func17 rfl hf ?_ hro
  simp only [Tryd.ntmps17, List.size_toArray, List.length_cons, List.length_nil, Nat.reduceAdd, Nat.reduceSub, Array.replicate_succ, Array.replicate_zero, List.push_toArray, List.append_toArray, List.nil_append, List.cons_append]
  gi_wp2
  go_ret
  exact ⟨rfl, rfl⟩

/-- What has come when k rounds from the last to the first are over. -/
def downD (len k : Nat) : List Nat := (List.range k).map fun i => len - 1 - i
theorem downD_succ (len k : Nat) : downD len (k + 1) = downD len k ++ [len - 1 - k] := by simp [downD, List.range_succ]
theorem downD_length (len k : Nat) : (downD len k).length = k := by simp [downD]

/-- What the range hands over: an index and the byte there. -/
abbrev Iy (n : Nat) := { j : Nat // j < n } × Int
def encY {n : Nat} (x : Iy n) : Array Value := #[Value.int .i64 (x.1.1 : Int), Value.int .u8 x.2]

/-- What a round keeps: all below n₀, the box Bs, and that the bytes can be read. -/
def KeptD (Bs n₀ b len : Nat) (W W' : World) : Prop := Below n₀ W W' ∧ (∀ v, W.cell? ⟨Bs, 0, none⟩ = some v → W'.cell? ⟨Bs, 0, none⟩ = some v) ∧ ∀ j, j < len → (∃ v : Int, W.cell? ⟨b, j, none⟩ = some (.int .u8 v)) → ∃ v : Int, W'.cell? ⟨b, j, none⟩ = some (.int .u8 v)
theorem KeptD.trans {Bs n₀ b len : Nat} {A B C : World} (h : KeptD Bs n₀ b len A B) (k : KeptD Bs n₀ b len B C) : KeptD Bs n₀ b len A C := ⟨h.1.trans k.1, fun v e => k.2.1 v (h.2.1 v e), fun j hj e => k.2.2 j hj (h.2.2 j hj e)⟩
theorem KeptD.refl (Bs n₀ b len : Nat) (W : World) : KeptD Bs n₀ b len W W := ⟨Below.refl _ _, fun _ e => e, fun _ _ e => e⟩
theorem KeptD.put {Bs n₀ b len : Nat} {w : World} (h : n₀ ≤ w.heap.size) (hB : Bs < w.heap.size) (hb : b < w.heap.size) (W : World) (l : Nat) (o o' : Obj) (hl : w.heap.size ≤ l) (ho : W.heap[l]? = some o) (hc : o.isCells = false) (hk : o.isWalk = false) : KeptD Bs n₀ b len W (W.putObj l o') :=
  have h1 := belowK_b (w := w) (Nat.le_refl _) W l o o' hl ho hc hk
  ⟨belowK_b (w := w) h W l o o' hl ho hc hk, fun _ e => (h1.cell (p := ⟨Bs, 0, none⟩) hB).trans e, fun j _ ⟨v, e⟩ => ⟨v, (h1.cell (p := ⟨b, j, none⟩) hb).trans e⟩⟩

set_option maxRecDepth 100000 in
set_option maxHeartbeats 2000000 in
/-- slices.Backward's closure: the indices from the last to the first, each with its byte. -/
theorem back1D_in (F : Fence) (n : Nat) (hf : F.fn 26) (hro : F.round = none) (hn : 1 ≤ n) (l Bs n₀ b len cap : Nat) (hreach : len ≤ 1099511627776) (J Jx : List (Iy len) → World → Prop)
    (hY : ∀ pre (x : Iy len) W, J pre W → pre.length < len → YieldAt F (n - 1) Tryd.prog l (encY x) W fun e W' =>
      (e = .returned (.bool true) ∧ J (pre ++ [x]) W' ∧ KeptD Bs n₀ b len W W') ∨ (e = .returned (.bool false) ∧ Jx (pre ++ [x]) W'))
    (W : World) (hBs : W.cell? ⟨Bs, 0, none⟩ = some (.slice (some ⟨b, 0, none⟩) len cap)) (hc : ∀ j, j < len → ∃ v : Int, W.cell? ⟨b, j, none⟩ = some (.int .u8 v)) (h0 : J [] W) :
    CallsIn F n Tryd.prog 26 #[.func (.yield l) #[] #[], .pointer (some ⟨Bs, 0, none⟩)] W fun e W' => (∃ v, e = .returned v) ∧
      ((∃ ys, ys.map (fun x : Iy len => x.1.1) = downD len len ∧ J ys W') ∨ (∃ pre, True ∧ Jx pre W')) := by
  refine callsIn_of_wp Tryd.func26 rfl hf ?_ hro
  simp only [Tryd.ntmps26, List.size_toArray, List.length_cons, List.length_nil, Nat.reduceAdd, Nat.reduceSub, Array.replicate_succ, Array.replicate_zero, List.push_toArray, List.append_toArray, List.nil_append, List.cons_append]
  gi_wp2
  have Hc := Lib.hid hc; clear hc
  gi_loopw [3] (fun i wr => ∃ (k : Nat) (ys : List (Iy len)), k ≤ len ∧ i = .int .i64 ((len : Int) - 1 - k) ∧ Hid (ys.map (fun x : Iy len => x.1.1) = downD len k) ∧ J ys wr ∧ KeptD Bs n₀ b len W wr)
    (fun i _ => ((intOf i) + 1).toNat)
  case atStart => exact ⟨0, [], Nat.zero_le _, by simp, Lib.hid rfl, h0, KeptD.refl _ _ _ _ _⟩
  case round =>
    obtain ⟨k, ys, hk, rfl, hys, hJs, hnx⟩ := hrel
    have hBw := hnx.2.1 _ hBs
    have hyl : ys.length = k := by have := congrArg List.length hys.out; rw [List.length_map, downD_length] at this; exact this
    by_cases hlt : k < len
    · obtain ⟨m, hm⟩ : ∃ m, m = len - 1 - k := ⟨_, rfl⟩
      have hml2 : m < len := by omega
      obtain ⟨v, hcx⟩ := hnx.2.2 m hml2 (Hc.out m hml2)
      have hcx' : wr.cell? ⟨b, 0 + m, none⟩ = some (.int .u8 v) := by rw [Nat.zero_add]; exact hcx
      obtain ⟨fn, tmps, assign, body, hy, hR⟩ := hY ys (⟨m, hml2⟩, v) wr hJs (by omega)
      simp only [encY] at hy
      have Hys := Lib.hid (show (ys ++ [((⟨m, hml2⟩, v) : Iy len)]).map (fun x : Iy len => x.1.1) = downD len (k + 1) by rw [List.map_append, hys.out, downD_succ, ← hm]; rfl)
      have hmi : (len : Int) - 1 - (k : Int) = (m : Int) := by omega
      rw [hmi]
      have HR := Lib.hid hR
      have Hmi := Lib.hid hmi
      clear hm hmi hR hys hyl
      gi_wp2
      refine HR.out.mono ?_
      rintro e W3 (⟨rfl, hJ3, hk3⟩ | ⟨rfl, hJx3⟩)
      · gi_wp2
        go_roundw
        case rel => exact ⟨k + 1, _, by omega, by have := Hmi.out; simp <;> omega, Hys, hJ3, hnx.trans hk3⟩
        case measure => simp [intOf] <;> omega
      · gi_wp2
        refine bodyPost_ret (results_none rfl _ _ _) rfl ?_
        exact ⟨⟨_, rfl⟩, .inr ⟨_, trivial, hJx3⟩⟩
    · obtain rfl : k = len := by omega
      have hmi : (k : Int) - 1 - (k : Int) = -1 := by omega
      rw [hmi]
      gi_wp2
      go_end0
      exact ⟨⟨_, rfl⟩, .inl ⟨_, hys.out, hJs⟩⟩

theorem backD_stops (F : Fence) (n : Nat) (hf : F.fn 26) (hro : F.round = none) (hn : 1 ≤ n) (Bs n₀ b len cap : Nat) (hreach : len ≤ 1099511627776) (w : World) (hBs : Bs < w.heap.size) (hb : b < w.heap.size)
    (hc : w.cell? ⟨Bs, 0, none⟩ = some (.slice (some ⟨b, 0, none⟩) len cap)) (hX : ∀ j, j < len → ∃ v : Int, w.cell? ⟨b, j, none⟩ = some (.int .u8 v)) :
    SeqStopsK F n Tryd.prog 26 #[.pointer (some ⟨Bs, 0, none⟩)] (fun x : Iy len => encY x) (KeptD Bs n₀ b len) (fun ys => ys.map (fun x : Iy len => x.1.1) = downD len len) (fun _ => True) len w := fun l J Jx W hW _ _ hY h0 => by
  have hc' := (hW.cell (p := ⟨Bs, 0, none⟩) hBs).trans hc
  refine (back1D_in F n hf hro hn l Bs n₀ b len cap hreach J Jx hY W hc' (fun j hj => by
    obtain ⟨v, e⟩ := hX j hj
    exact ⟨v, (hW.cell (p := ⟨b, j, none⟩) hb).trans e⟩) h0).mono ?_
  rintro e W' ⟨he, ⟨ys, hys, hj⟩ | ⟨pre, _, hj⟩⟩
  · exact ⟨he, .inl ⟨_, hys, hj⟩⟩
  · exact ⟨he, .inr ⟨_, trivial, hj⟩⟩

end Go.Proofs.YtfeejdbkolpjoaaDoor
