/-
  Decision diagrams, the program: the assignment at an index (as chapter 9's, without the shelf).
-/
import Derived.Test.YtamjfcckgeakfaaDgP
import Derived.Shelf.Abstract
import Derived.RangeFuncNested
import Derived.RangeFuncWrites
import Derived.RangeFuncBound
import Derived.RangeFuncCalls
import Derived.RangeFuncLeaves
import Derived.OwnWalkIn
import Derived.TacticsInMore
import Derived.LoopNIn
import Derived.LoopIn
import Derived.BigFrameIn
import Derived.BigGuardPartIn
import Derived.RangeFuncBox
import Derived.Laws.IdiomStrings
namespace Go.Proofs.Ytamjfcckgeakfaa
open Go.RowKit Num Go.Shelf

attribute [local go_sem] Oper.semAt_some

set_option maxHeartbeats 1000000 in
/-- slices.Backward: the slice is boxed, the function value captures the box. -/
theorem backD_in (F : Fence) (n : Nat) (hf : F.fn 91) (hro : F.round = none) (a : Option Addr) (len cap : Nat) (w : World) :
    CallsIn F n Try.prog 91 #[.slice a len cap] w fun e w' => e = .returned (.func (.func 100) #[] #[.pointer (some ⟨w.heap.size, 0, none⟩)]) ∧ w' = w.alloc (.cells #[.slice a len cap] 43) := by
  refine callsIn_of_wp Try.func91 rfl hf ?_ hro
  simp only [Try.ntmps91, List.size_toArray, List.length_cons, List.length_nil, Nat.reduceAdd, Nat.reduceSub, Array.replicate_succ, Array.replicate_zero, List.push_toArray, List.append_toArray, List.nil_append, List.cons_append]
  gi_wp2
  go_ret
  exact ⟨rfl, rfl⟩

/-- What has come when k rounds from the last to the first are over. -/
def downD (len k : Nat) : List Nat := (List.range k).map fun i => len - 1 - i
theorem downD_succ (len k : Nat) : downD len (k + 1) = downD len k ++ [len - 1 - k] := by simp [downD, List.range_succ]
theorem downD_length (len k : Nat) : (downD len k).length = k := by simp [downD]

/-- What the range hands over: an index and the byte there. -/
abbrev Iy (n : Nat) := { j : Nat // j < n } × Int
def encY {n : Nat} (x : Iy n) : Array Value := #[Value.int .i64 (x.1.1 : Int), Value.int .u8 x.2]

/-- What a round keeps: all below n₀, the box Bs, and that the bytes can be read. -/
def KeptD (Bs n₀ b len : Nat) (W W' : World) : Prop := Below n₀ W W' ∧ (∀ v, W.cell? ⟨Bs, 0, none⟩ = some v → W'.cell? ⟨Bs, 0, none⟩ = some v) ∧ ∀ j, j < len → (∃ v : Int, W.cell? ⟨b, j, none⟩ = some (.int .u8 v)) → ∃ v : Int, W'.cell? ⟨b, j, none⟩ = some (.int .u8 v)
theorem KeptD.trans {Bs n₀ b len : Nat} {A B C : World} (h : KeptD Bs n₀ b len A B) (k : KeptD Bs n₀ b len B C) : KeptD Bs n₀ b len A C := ⟨h.1.trans k.1, fun v e => k.2.1 v (h.2.1 v e), fun j hj e => k.2.2 j hj (h.2.2 j hj e)⟩
theorem KeptD.refl (Bs n₀ b len : Nat) (W : World) : KeptD Bs n₀ b len W W := ⟨Below.refl _ _, fun _ e => e, fun _ _ e => e⟩
theorem KeptD.put {Bs n₀ b len : Nat} {w : World} (h : n₀ ≤ w.heap.size) (hB : Bs < w.heap.size) (hb : b < w.heap.size) (W : World) (l : Nat) (o o' : Obj) (hl : w.heap.size ≤ l) (ho : W.heap[l]? = some o) (hc : o.isCells = false) (hk : o.isWalk = false) : KeptD Bs n₀ b len W (W.putObj l o') :=
  have h1 := belowK_b (w := w) (Nat.le_refl _) W l o o' hl ho hc hk
  ⟨belowK_b (w := w) h W l o o' hl ho hc hk, fun _ e => (h1.cell (p := ⟨Bs, 0, none⟩) hB).trans e, fun j _ ⟨v, e⟩ => ⟨v, (h1.cell (p := ⟨b, j, none⟩) hb).trans e⟩⟩

set_option maxRecDepth 100000 in
set_option maxHeartbeats 2000000 in
/-- slices.Backward's closure: the indices from the last to the first, each with its byte. -/
theorem back1D_in (F : Fence) (n : Nat) (hf : F.fn 100) (hro : F.round = none) (hn : 1 ≤ n) (l Bs n₀ b len cap : Nat) (hreach : len ≤ 1099511627776) (J Jx : List (Iy len) → World → Prop)
    (hY : ∀ pre (x : Iy len) W, J pre W → pre.length < len → YieldAt F (n - 1) Try.prog l (encY x) W fun e W' =>
      (e = .returned (.bool true) ∧ J (pre ++ [x]) W' ∧ KeptD Bs n₀ b len W W') ∨ (e = .returned (.bool false) ∧ Jx (pre ++ [x]) W'))
    (W : World) (hBs : W.cell? ⟨Bs, 0, none⟩ = some (.slice (some ⟨b, 0, none⟩) len cap)) (hc : ∀ j, j < len → ∃ v : Int, W.cell? ⟨b, j, none⟩ = some (.int .u8 v)) (h0 : J [] W) :
    CallsIn F n Try.prog 100 #[.func (.yield l) #[] #[], .pointer (some ⟨Bs, 0, none⟩)] W fun e W' => (∃ v, e = .returned v) ∧
      ((∃ ys, ys.map (fun x : Iy len => x.1.1) = downD len len ∧ J ys W') ∨ (∃ pre, True ∧ Jx pre W')) := by
  refine callsIn_of_wp Try.func100 rfl hf ?_ hro
  simp only [Try.ntmps100, List.size_toArray, List.length_cons, List.length_nil, Nat.reduceAdd, Nat.reduceSub, Array.replicate_succ, Array.replicate_zero, List.push_toArray, List.append_toArray, List.nil_append, List.cons_append]
  gi_wp2
  have Hc := Lib.hid hc; clear hc
  gi_loopw [3] (fun i wr => ∃ (k : Nat) (ys : List (Iy len)), k ≤ len ∧ i = .int .i64 ((len : Int) - 1 - k) ∧ Hid (ys.map (fun x : Iy len => x.1.1) = downD len k) ∧ J ys wr ∧ KeptD Bs n₀ b len W wr)
    (fun i _ => ((intOf i) + 1).toNat)
  case atStart => exact ⟨0, [], Nat.zero_le _, by simp, Lib.hid rfl, h0, KeptD.refl _ _ _ _ _⟩
  case round =>
    obtain ⟨k, ys, hk, rfl, hys, hJs, hnx⟩ := hrel
    have hBw := hnx.2.1 _ hBs
    have hyl : ys.length = k := by have := congrArg List.length hys.out; rw [List.length_map, downD_length] at this; exact this
    by_cases hlt : k < len
    · obtain ⟨m, hm⟩ : ∃ m, m = len - 1 - k := ⟨_, rfl⟩
      have hml2 : m < len := by omega
      obtain ⟨v, hcx⟩ := hnx.2.2 m hml2 (Hc.out m hml2)
      have hcx' : wr.cell? ⟨b, 0 + m, none⟩ = some (.int .u8 v) := by rw [Nat.zero_add]; exact hcx
      obtain ⟨fn, tmps, assign, body, hy, hR⟩ := hY ys (⟨m, hml2⟩, v) wr hJs (by omega)
      simp only [encY] at hy
      have Hys := Lib.hid (show (ys ++ [((⟨m, hml2⟩, v) : Iy len)]).map (fun x : Iy len => x.1.1) = downD len (k + 1) by rw [List.map_append, hys.out, downD_succ, ← hm]; rfl)
      have hmi : (len : Int) - 1 - (k : Int) = (m : Int) := by omega
      rw [hmi]
      have HR := Lib.hid hR
      have Hmi := Lib.hid hmi
      clear hm hmi hR hys hyl
      gi_wp2
      refine HR.out.mono ?_
      rintro e W3 (⟨rfl, hJ3, hk3⟩ | ⟨rfl, hJx3⟩)
      · gi_wp2
        go_roundw
        case rel => exact ⟨k + 1, _, by omega, by have := Hmi.out; simp <;> omega, Hys, hJ3, hnx.trans hk3⟩
        case measure => simp [intOf] <;> omega
      · gi_wp2
        refine bodyPost_ret (results_none rfl _ _ _) rfl ?_
        exact ⟨⟨_, rfl⟩, .inr ⟨_, trivial, hJx3⟩⟩
    · obtain rfl : k = len := by omega
      have hmi : (k : Int) - 1 - (k : Int) = -1 := by omega
      rw [hmi]
      gi_wp2
      go_end0
      exact ⟨⟨_, rfl⟩, .inl ⟨_, hys.out, hJs⟩⟩

theorem backD_stops (F : Fence) (n : Nat) (hf : F.fn 100) (hro : F.round = none) (hn : 1 ≤ n) (Bs n₀ b len cap : Nat) (hreach : len ≤ 1099511627776) (w : World) (hBs : Bs < w.heap.size) (hb : b < w.heap.size)
    (hc : w.cell? ⟨Bs, 0, none⟩ = some (.slice (some ⟨b, 0, none⟩) len cap)) (hX : ∀ j, j < len → ∃ v : Int, w.cell? ⟨b, j, none⟩ = some (.int .u8 v)) :
    SeqStopsK F n Try.prog 100 #[.pointer (some ⟨Bs, 0, none⟩)] (fun x : Iy len => encY x) (KeptD Bs n₀ b len) (fun ys => ys.map (fun x : Iy len => x.1.1) = downD len len) (fun _ => True) len w := fun l J Jx W hW _ _ hY h0 => by
  have hc' := (hW.cell (p := ⟨Bs, 0, none⟩) hBs).trans hc
  refine (back1D_in F n hf hro hn l Bs n₀ b len cap hreach J Jx hY W hc' (fun j hj => by
    obtain ⟨v, e⟩ := hX j hj
    exact ⟨v, (hW.cell (p := ⟨b, j, none⟩) hb).trans e⟩) h0).mono ?_
  rintro e W' ⟨he, ⟨ys, hys, hj⟩ | ⟨pre, _, hj⟩⟩
  · exact ⟨he, .inl ⟨_, hys, hj⟩⟩
  · exact ⟨he, .inr ⟨_, trivial, hj⟩⟩

theorem and_oneD (i : Nat) (hi : i < 9223372036854775808) : bits BinOp.and IntKind.i64 (i : Int) 1 = ((i % 2 : Nat) : Int) := by
  have two63 : (2 : Int) ^ 63 = 9223372036854775808 := by decide
  have h := bits_mask .i64 63 (by decide) (fun n h0 h1 => by rw [two63] at h1; rw [IntKind.wrap_i64]; omega) 1 (by decide) (i : Int) (by omega) (by rw [two63]; omega)
  have e : ((2 : Int) ^ 1 - 1) = 1 := by decide
  rw [e] at h
  rw [h]
  omega

/-- The index that is left, and the digits written, behind these rounds. -/
def stB (i : Nat) (xs : List Nat) : Nat × (Nat → Nat) := xs.foldl (fun c x => (c.1 / 2, fun j => if j = x then 48 + c.1 % 2 else c.2 j)) (i, fun _ => 0)
theorem stB_snoc (i : Nat) (xs : List Nat) (x : Nat) : stB i (xs ++ [x]) = ((stB i xs).1 / 2, fun j => if j = x then 48 + (stB i xs).1 % 2 else (stB i xs).2 j) := by
  rw [stB, List.foldl_append]; rfl
theorem stB_down (i n : Nat) : ∀ k, k ≤ n → (stB i (downD n k)).1 = i / 2 ^ k ∧ ∀ j, j < n → n - k ≤ j → (stB i (downD n k)).2 j = 48 + i / 2 ^ (n - 1 - j) % 2
  | 0, _ => ⟨by simp [downD, stB], fun j h1 h2 => by omega⟩
  | k + 1, hk => by
    obtain ⟨h1, h2⟩ := stB_down i n k (by omega)
    rw [downD_succ, stB_snoc]
    refine ⟨by rw [h1, Nat.pow_succ, Nat.div_div_eq_div_mul], fun j hj hjk => ?_⟩
    show (if j = n - 1 - k then 48 + (stB i (downD n k)).1 % 2 else (stB i (downD n k)).2 j) = _
    by_cases e : j = n - 1 - k
    · rw [if_pos e, h1, e, show n - 1 - (n - 1 - k) = k by omega]
    · rw [if_neg e, h2 j hj (by omega)]
theorem fold_le (i : Nat) : ∀ (xs : List Nat) (c : Nat × (Nat → Nat)), c.1 ≤ i → (xs.foldl (fun (c : Nat × (Nat → Nat)) x => (c.1 / 2, fun j => if j = x then 48 + c.1 % 2 else c.2 j)) c).1 ≤ i
  | [], _, h => h
  | _ :: xs, c, h => fold_le i xs _ (Nat.le_trans (Nat.div_le_self c.1 2) h)
theorem stB_le (i : Nat) (xs : List Nat) : (stB i xs).1 ≤ i := fold_le i xs _ (Nat.le_refl _)

theorem bin_at : ∀ (n i j : Nat) (hj : j < (bin n i).length), (bin n i)[j] = UInt8.ofNat (48 + i / 2 ^ (n - 1 - j) % 2)
  | n + 1, i, 0, _ => by simp [bin]
  | n + 1, i, j + 1, hj => by
    have h : j < (bin n i).length := by simpa [bin] using hj
    have := bin_at n i j h
    simp only [bin, List.getElem_cons_succ]
    rw [this, show n + 1 - 1 - (j + 1) = n - 1 - j by omega]

/-- The state of the loop in memory. -/
def AsI (i n GI G GT GN : Nat) (w : World) (pre : List (Iy n)) (W : World) : Prop :=
  (Box W GI 3 #[.int .i64 ((stB i (pre.map (fun x : Iy n => x.1.1))).1 : Nat)] ∧ (∃ cs : Array Value, Box W G 5 cs ∧ cs.size = n ∧ ∀ j, j < n → cs[j]? = some (.int .u8 ((stB i (pre.map (fun x : Iy n => x.1.1))).2 j : Nat))) ∧
    Box W GT 43 #[.slice (some ⟨G, 0, none⟩) n n] ∧ Box W GN 43 #[.slice (some ⟨G, 0, none⟩) n n]) ∧ Below w.heap.size w W
theorem box_ownD {Wa Wb : World} {row : Option Nat} {g B0 : Nat} {t : TypeId} {cs : Array Value} (h : Box Wa g t cs) (hg : Wa.grownBy Wb row) (hr : ∀ r, row = some r → B0 ≤ r ∧ ∃ o : Obj, Wa.heap[r]? = some o ∧ o.isCells = false) : Box Wb g t cs := by
  have hne : some g ≠ row := by
    intro e
    obtain ⟨_, o, ho, hcl⟩ := hr g e.symm
    have h' : Wa.heap[g]? = some (.cells cs t) := h
    rw [h'] at ho
    cases ho
    cases hcl
  exact (hg.block g h.lt hne).trans h
theorem as_own (i n GI G GT GN : Nat) (w : World) (B0 : Nat) (hB : w.heap.size ≤ B0) : OwnFrom B0 (AsI i n GI G GT GN w) := by
  rintro s Wa Wb row ⟨⟨h1, ⟨cs, h2, h3⟩, h4, h5⟩, h7⟩ hg hr
  refine ⟨⟨box_ownD h1 hg hr, ⟨cs, box_ownD h2 hg hr, h3⟩, box_ownD h4 hg hr, box_ownD h5 hg hr⟩, h7.grown hg h7.size fun k e => ?_⟩
  exact Nat.le_trans hB (hr k e).1

theorem Box.farD {w : World} {G H : Nat} {t : TypeId} {cs : Array Value} (h : Box w G t cs) (hne : H ≠ G) (i : Nat) (v : Value) : Box (w.setCell ⟨H, i, none⟩ v) G t cs := by
  unfold Box at h ⊢
  simp [World.setCell, Array.getElem?_modify, hne, h]

theorem Try.infoByteD : (Try.prog.info? 5).map (fun i => (i.zero, i.size, i.bytes)) = some (some (.int .u8 0), 1, 1) := by kernel_rfl

theorem mk_byteD (n : Nat) (hn : n ≤ 1048576) (w : World) :
    (Instr.makeSlice 43 (.int .i64 (n : Int)) (.int .i64 (n : Int))).run Try.prog w = .ok (.slice (some ⟨w.heap.size, 0, none⟩) n n) (w.alloc (.cells (madeCells #[.int .u8 0] n) 5)) := by
  obtain ⟨i, hi, hzz⟩ := Option.map_eq_some_iff.1 Try.infoByteD
  simp only [Prod.mk.injEq] at hzz
  obtain ⟨hz, hs, hb⟩ := hzz
  have hr := run_make (P := Try.prog) w 43 5 i _ Try.underlying43 hi hz .i64 .i64 n n (by omega) (Int.le_refl _) (by rw [hb]; omega) (by omega)
  simp only [Int.toNat_natCast, hs, Value.cells, Nat.mul_one] at hr
  exact hr

theorem madeD_at (n j : Nat) (hj : j < n) : (madeCells #[.int .u8 0] n)[j]? = some (.int .u8 0) := by
  have h := size_madeCells #[.int .u8 0] n
  rw [Array.getElem?_eq_getElem (by omega)]
  simp [madeCells, Nat.mod_one]

set_option maxRecDepth 100000 in
set_option maxHeartbeats 4000000 in
theorem asg_in (i n : Nat) (w : World) (hi : i ≤ 1048576) (hn : n ≤ 1024) :
    CallsIn Fence.wide 5 Try.prog 83 #[.int .i64 (i : Nat), .int .i64 (n : Nat)] w fun e W' => e = .returned (.string ⟨(bin n i).toArray⟩) ∧ Below w.heap.size w W' := by
  have hmk := mk_byteD n (by omega)
  refine callsIn_of_wp_marks Try.func83 rfl trivial ?_ rfl
  simp only [Try.ntmps83, List.size_toArray, List.length_cons, List.length_nil, Nat.reduceAdd, Nat.reduceSub, Array.replicate_succ, Array.replicate_zero, List.push_toArray, List.append_toArray, List.nil_append, List.cons_append]
  gi_wp2_with fail
  refine ⟨trivial, ?_⟩
  refine (backD_in Fence.wide _ trivial rfl _ _ _ _).mono ?_
  rintro e w' ⟨rfl, rfl⟩
  have e0 : ∀ (W : World) (o : Obj), (W.alloc o).heap.size = W.heap.size + 1 := fun W o => by simp
  obtain ⟨w1, hw1⟩ : ∃ w1, w1 = w.alloc (.cells #[.int .i64 (i : Nat)] 3) := ⟨_, rfl⟩
  have z1 : w1.heap.size = w.heap.size + 1 := by rw [hw1, e0]
  have hI1 : Box w1 w.heap.size 3 #[.int .i64 (i : Nat)] := by rw [hw1]; exact Box.new w _ _
  obtain ⟨w2, hw2⟩ : ∃ w2, w2 = w1.alloc (.cells (madeCells #[.int .u8 0] n) 5) := ⟨_, rfl⟩
  have z2 : w2.heap.size = w.heap.size + 1 + 1 := by rw [hw2, e0, z1]
  have hG2 : Box w2 (w.heap.size + 1) 5 (madeCells #[.int .u8 0] n) := by rw [hw2, ← z1]; exact Box.new w1 _ _
  have hI2 : Box w2 w.heap.size 3 #[.int .i64 (i : Nat)] := by rw [hw2]; exact hI1.alloc _
  obtain ⟨w3, hw3⟩ : ∃ w3, w3 = w2.alloc (.cells #[.slice (some ⟨w.heap.size + 1, 0, none⟩) n n] 43) := ⟨_, rfl⟩
  have z3 : w3.heap.size = w.heap.size + 1 + 1 + 1 := by rw [hw3, e0, z2]
  have hT3 : Box w3 (w.heap.size + 1 + 1) 43 #[.slice (some ⟨w.heap.size + 1, 0, none⟩) n n] := by rw [hw3, ← z2]; exact Box.new w2 _ _
  have hG3 : Box w3 (w.heap.size + 1) 5 (madeCells #[.int .u8 0] n) := by rw [hw3]; exact hG2.alloc _
  have hI3 : Box w3 w.heap.size 3 #[.int .i64 (i : Nat)] := by rw [hw3]; exact hI2.alloc _
  obtain ⟨w4, hw4⟩ : ∃ w4, w4 = w3.alloc (.cells #[.slice (some ⟨w.heap.size + 1, 0, none⟩) n n] 43) := ⟨_, rfl⟩
  have z4 : w4.heap.size = w.heap.size + 1 + 1 + 1 + 1 := by rw [hw4, e0, z3]
  have hN4 : Box w4 (w.heap.size + 1 + 1 + 1) 43 #[.slice (some ⟨w.heap.size + 1, 0, none⟩) n n] := by rw [hw4, ← z3]; exact Box.new w3 _ _
  have hT4 : Box w4 (w.heap.size + 1 + 1) 43 #[.slice (some ⟨w.heap.size + 1, 0, none⟩) n n] := by rw [hw4]; exact hT3.alloc _
  have hG4 : Box w4 (w.heap.size + 1) 5 (madeCells #[.int .u8 0] n) := by rw [hw4]; exact hG3.alloc _
  have hI4 : Box w4 w.heap.size 3 #[.int .i64 (i : Nat)] := by rw [hw4]; exact hI3.alloc _
  have hB4 : Below w.heap.size w w4 := by rw [hw4, hw3, hw2, hw1]; exact ((((Below.refl _ w).alloc (Nat.le_refl _) _).alloc (by simp) _).alloc (by simp; omega) _).alloc (by simp; omega) _
  have hst4 : AsI i n w.heap.size (w.heap.size + 1) (w.heap.size + 1 + 1) (w.heap.size + 1 + 1 + 1) w [] w4 := ⟨⟨hI4, ⟨_, hG4, size_madeCells _ _, fun j hj => madeD_at n j hj⟩, hT4, hN4⟩, hB4⟩
  have hrd : ∀ j, j < n → ∃ v : Int, w4.cell? ⟨w.heap.size + 1, j, none⟩ = some (.int .u8 v) := fun j hj => ⟨0, by rw [hG4.cell]; exact madeD_at n j hj⟩
  rw [← hw1, ← hw2, ← hw3, ← hw4]
  rw [z3]
  have HR := Lib.hid hrd
  clear hI1 hG2 hI2 hT3 hG3 hI3 hT4 hG4 hI4 hw1 hw2 hw3 hw4 z1 z2 z3 e0 hmk hrd
  gi_wp2_with fail
  refine wpIn_rangeFunc_ownG rfl (by omega) (gf := 100) (lb := #[.pointer (some ⟨w.heap.size + 1 + 1 + 1, 0, none⟩)]) rfl trivial (enters_of Try.func100 (by kernel_rfl) rfl)
    (backD_stops Fence.wide (5 - 1) trivial rfl (by omega) (w.heap.size + 1 + 1 + 1) w.heap.size (w.heap.size + 1) n n (by omega) w4 (by omega) (by omega) (hN4.cell 0) HR.out) KeptD.trans (KeptD.put (by omega) (by omega) (by omega)) (Below.refl _ _) (fun _ => rfl)
    (AsI i n w.heap.size (w.heap.size + 1) (w.heap.size + 1 + 1) (w.heap.size + 1 + 1 + 1) w)
    (fun _ _ _ => False)
    (as_own i n _ _ _ _ w _ (by omega))
    (fun _ _ _ _ _ hs _ _ => hs)
    hst4
    ?a₁ ?assign ?body ?done ?stop
  case assign =>
    intro l x W K hK
    simp only [encY]
    gi_wp2
    exact hK
  case body =>
    rintro l pre ⟨⟨j, hj⟩, v⟩ W ⟨⟨hI, ⟨cs, hG, hcs, hf⟩, hT, hN⟩, hbel⟩ _
    obtain ⟨d, hd⟩ : ∃ d, d = (stB i (pre.map (fun x : Iy n => x.1.1))).1 := ⟨_, rfl⟩
    have hdl : d ≤ 1048576 := by rw [hd]; exact Nat.le_trans (stB_le _ _) hi
    obtain ⟨r, hr⟩ : ∃ r, r = d % 2 := ⟨_, rfl⟩
    have hr2 : r < 2 := by omega
    have ha : bits BinOp.and IntKind.i64 (d : Int) 1 = (r : Int) := by rw [and_oneD d (by omega), hr]
    have wr : IntKind.u8.wrap (r : Int) = (r : Int) := IntWalk.u8_in _ (by omega)
    have ww : IntKind.u8.wrap (48 + (r : Int)) = 48 + (r : Int) := IntWalk.u8_in _ (by omega)
    rw [← hd] at hI
    have HD := Lib.hid hd
    have Hr := Lib.hid hr
    clear hd hr
    have t0 := hT.cell 0
    have i0 := hI.cell 0
    have fi := hI.free 0
    have fj := hG.free j
    have kj : W.cell? ⟨w.heap.size + 1, j, none⟩ = some (.int .u8 ((stB i (pre.map (fun x : Iy n => x.1.1))).2 j : Nat)) := by rw [hG.cell]; exact hf j hj
    have i0' : (W.setCell ⟨w.heap.size + 1, j, none⟩ (.int .u8 (48 + (r : Int)))).cell? ⟨w.heap.size, 0, none⟩ = some (.int .i64 (d : Nat)) := (hI.farD (show w.heap.size + 1 ≠ w.heap.size by omega) j _).cell 0
    have fi' : (W.setCell ⟨w.heap.size + 1, j, none⟩ (.int .u8 (48 + (r : Int)))).frozen? ⟨w.heap.size, 0, none⟩ = false := (hI.farD (show w.heap.size + 1 ≠ w.heap.size by omega) j _).free 0
    have HI := Lib.hid hI
    have HG := Lib.hid hG
    have HT := Lib.hid hT
    have HN := Lib.hid hN
    have Hbel := Lib.hid hbel
    have Hf := Lib.hid hf
    have Hcs := Lib.hid hcs
    clear hI hG hT hN hbel hf hcs
    gi_wp2
    have hst : stB i ((pre ++ [((⟨j, hj⟩, v) : Iy n)]).map (fun x : Iy n => x.1.1)) = (d / 2, fun k => if k = j then 48 + r else (stB i (pre.map (fun x : Iy n => x.1.1))).2 k) := by
      rw [List.map_append, List.map_cons, List.map_nil, stB_snoc, ← HD.out, Hr.out]
    have gI : Box _ w.heap.size 3 #[.int .i64 ((d : Int) / 2)] := (HI.out.farD (show w.heap.size + 1 ≠ w.heap.size by omega) j (.int .u8 (48 + (r : Int)))).set 0 (.int .i64 ((d : Int) / 2))
    have gG := (HG.out.set j (.int .u8 (48 + (r : Int)))).farD (show w.heap.size ≠ w.heap.size + 1 by omega) 0 (.int .i64 ((d : Int) / 2))
    have gT := (HT.out.farD (show w.heap.size + 1 ≠ w.heap.size + 1 + 1 by omega) j (.int .u8 (48 + (r : Int)))).farD (show w.heap.size ≠ w.heap.size + 1 + 1 by omega) 0 (.int .i64 ((d : Int) / 2))
    have gN := (HN.out.farD (show w.heap.size + 1 ≠ w.heap.size + 1 + 1 + 1 by omega) j (.int .u8 (48 + (r : Int)))).farD (show w.heap.size ≠ w.heap.size + 1 + 1 + 1 by omega) 0 (.int .i64 ((d : Int) / 2))
    have hf' : ∀ k, k < n → (cs.setIfInBounds j (.int .u8 (48 + (r : Int))))[k]? = some (.int .u8 ((stB i ((pre ++ [((⟨j, hj⟩, v) : Iy n)]).map (fun x : Iy n => x.1.1))).2 k : Nat)) := fun k hk => by
      rw [hst, Array.getElem?_setIfInBounds]
      by_cases e : j = k
      · have := Hcs.out
        rw [if_pos e, if_pos (by omega)]
        simp [e]
      · rw [if_neg e, Hf.out k hk]
        show _ = some (Value.int .u8 ((if k = j then 48 + r else (stB i (pre.map (fun x : Iy n => x.1.1))).2 k : Nat) : Int))
        rw [if_neg (fun h => e h.symm)]
    refine ⟨((KeepsOthers.setCell _ _ _).trans (KeepsOthers.setCell _ _ _)).from _, ⟨((Below.refl _ W).setCell (p := ⟨w.heap.size + 1, j, none⟩) (Nat.le_succ _) _).setCell (p := ⟨w.heap.size, 0, none⟩) (Nat.le_refl _) _, fun u e => (gN.cell 0).trans ((HN.out.cell 0).symm.trans e), fun k hk _ => ⟨_, (gG.cell k).trans (hf' k hk)⟩⟩, ⟨?_, ⟨_, gG, by rw [Array.size_setIfInBounds]; exact Hcs.out, hf'⟩, gT, gN⟩, (Hbel.out.setCell (p := ⟨w.heap.size + 1, j, none⟩) (Nat.le_succ _) _).setCell (p := ⟨w.heap.size, 0, none⟩) (Nat.le_refl _) _⟩
    rw [hst]
    exact gI
  case done =>
    rintro D ys W hD hys ⟨⟨_, ⟨cs, hG, _, hf⟩, hT, _⟩, hbel⟩ hK
    have hl := bin_len n i
    have hcs : ∀ j (hj : j < (bin n i).length), W.cell? ((⟨w.heap.size + 1, 0, none⟩ : Addr).add j) = some (.int .u8 ((bin n i)[j].toNat : Int)) := by
      intro j hj
      have hjn : j < n := by omega
      have h1 : W.cell? ⟨w.heap.size + 1, j, none⟩ = some (.int .u8 ((bin n i)[j].toNat : Int)) := by
        rw [hG.cell, hf j hjn, hys, (stB_down i n n (Nat.le_refl _)).2 j hjn (by omega), bin_at]
        have : (UInt8.ofNat (48 + i / 2 ^ (n - 1 - j) % 2)).toNat = 48 + i / 2 ^ (n - 1 - j) % 2 := by
          rw [UInt8.toNat_ofNat']
          omega
        rw [this]
      rw [← h1]
      unfold Addr.add
      split
      · rename_i h0
        rw [h0]
      · simp
    have hcv := run_convert_bytes_back (P := Try.prog) W 43 9 5 ⟨w.heap.size + 1, 0, none⟩ n (bin n i) Try.underlying43 Try.underlying5 Try.underlying9 hcs
    rw [hl] at hcv
    have t0 := hT.cell 0
    gi_wp2
    refine ⟨by simp, .inl ⟨_, _, rfl, run_takeDeferred hK, ?_⟩⟩
    exact ⟨_, results_tmp rfl _ _ _, rfl, hbel.trans ((belowK_b (w := w4) (Nat.le_refl _) W D _ _ (by omega) hK rfl rfl).mono hB4.size)⟩
  case stop =>
    rintro D c pre W _ _ h _
    exact h.elim

theorem asg_any (i n : Nat) (w : World) (hi : i ≤ 1048576) (hn : n ≤ 1024) :
    Calls Try.prog 83 #[.int .i64 (i : Nat), .int .i64 (n : Nat)] w fun e W' => e = .returned (.string ⟨(bin n i).toArray⟩) ∧ Below w.heap.size w W' :=
  callsIn_wide.1 (asg_in i n w hi hn)

end Go.Proofs.Ytamjfcckgeakfaa
