/-
  The program's assignment at an index of a truth table: its walk.
-/
import Derived.Test.YtfeejdbkolpjoaaDoorDnD
namespace Go.Proofs.YtfeejdbkolpjoaaDoor
open Go.RowKit Num Go.Shelf

attribute [local go_sem] Oper.semAt_some

theorem and_oneD (i : Nat) (hi : i < 9223372036854775808) : bits BinOp.and IntKind.i64 (i : Int) 1 = ((i % 2 : Nat) : Int) := by
  have two63 : (2 : Int) ^ 63 = 9223372036854775808 := by decide
  have h := bits_mask .i64 63 (by decide) (fun n h0 h1 => by rw [two63] at h1; rw [IntKind.wrap_i64]; omega) 1 (by decide) (i : Int) (by omega) (by rw [two63]; omega)
  have e : ((2 : Int) ^ 1 - 1) = 1 := by decide
  rw [e] at h
  rw [h]
  omega

/-- The index that is left, and the digits written, behind these rounds. -/
def stB (i : Nat) (xs : List Nat) : Nat × (Nat → Nat) := xs.foldl (fun c x => (c.1 / 2, fun j => if j = x then 48 + c.1 % 2 else c.2 j)) (i, fun _ => 0)
theorem stB_snoc (i : Nat) (xs : List Nat) (x : Nat) : stB i (xs ++ [x]) = ((stB i xs).1 / 2, fun j => if j = x then 48 + (stB i xs).1 % 2 else (stB i xs).2 j) := by
  rw [stB, List.foldl_append]; rfl
theorem stB_down (i n : Nat) : ∀ k, k ≤ n → (stB i (downD n k)).1 = i / 2 ^ k ∧ ∀ j, j < n → n - k ≤ j → (stB i (downD n k)).2 j = 48 + i / 2 ^ (n - 1 - j) % 2
  | 0, _ => ⟨by simp [downD, stB], fun j h1 h2 => by omega⟩
  | k + 1, hk => by
    obtain ⟨h1, h2⟩ := stB_down i n k (by omega)
    rw [downD_succ, stB_snoc]
    refine ⟨by rw [h1, Nat.pow_succ, Nat.div_div_eq_div_mul], fun j hj hjk => ?_⟩
    show (if j = n - 1 - k then 48 + (stB i (downD n k)).1 % 2 else (stB i (downD n k)).2 j) = _
    by_cases e : j = n - 1 - k
    · rw [if_pos e, h1, e, show n - 1 - (n - 1 - k) = k by omega]
    · rw [if_neg e, h2 j hj (by omega)]
theorem fold_le (i : Nat) : ∀ (xs : List Nat) (c : Nat × (Nat → Nat)), c.1 ≤ i → (xs.foldl (fun (c : Nat × (Nat → Nat)) x => (c.1 / 2, fun j => if j = x then 48 + c.1 % 2 else c.2 j)) c).1 ≤ i
  | [], _, h => h
  | _ :: xs, c, h => fold_le i xs _ (Nat.le_trans (Nat.div_le_self c.1 2) h)
theorem stB_le (i : Nat) (xs : List Nat) : (stB i xs).1 ≤ i := fold_le i xs _ (Nat.le_refl _)

theorem bin_at : ∀ (n i j : Nat) (hj : j < (bin n i).length), (bin n i)[j] = UInt8.ofNat (48 + i / 2 ^ (n - 1 - j) % 2)
  | n + 1, i, 0, _ => by simp [bin]
  | n + 1, i, j + 1, hj => by
    have h : j < (bin n i).length := by simpa [bin] using hj
    have := bin_at n i j h
    simp only [bin, List.getElem_cons_succ]
    rw [this, show n + 1 - 1 - (j + 1) = n - 1 - j by omega]

/-- The state of the loop in memory. -/
def AsI (i n GI G GT GN : Nat) (w : World) (pre : List (Iy n)) (W : World) : Prop :=
  (Box W GI 3 #[.int .i64 ((stB i (pre.map (fun x : Iy n => x.1.1))).1 : Nat)] ∧ (∃ cs : Array Value, Box W G 5 cs ∧ cs.size = n ∧ ∀ j, j < n → cs[j]? = some (.int .u8 ((stB i (pre.map (fun x : Iy n => x.1.1))).2 j : Nat))) ∧
    Box W GT 33 #[.slice (some ⟨G, 0, none⟩) n n] ∧ Box W GN 33 #[.slice (some ⟨G, 0, none⟩) n n]) ∧ Below w.heap.size w W
theorem box_ownD {Wa Wb : World} {row : Option Nat} {g B0 : Nat} {t : TypeId} {cs : Array Value} (h : Box Wa g t cs) (hg : Wa.grownBy Wb row) (hr : ∀ r, row = some r → B0 ≤ r ∧ ∃ o : Obj, Wa.heap[r]? = some o ∧ o.isCells = false) : Box Wb g t cs := by
  have hne : some g ≠ row := by
    intro e
    obtain ⟨_, o, ho, hcl⟩ := hr g e.symm
    have h' : Wa.heap[g]? = some (.cells cs t) := h
    rw [h'] at ho
    cases ho
    cases hcl
  exact (hg.block g h.lt hne).trans h
theorem as_own (i n GI G GT GN : Nat) (w : World) (B0 : Nat) (hB : w.heap.size ≤ B0) : OwnFrom B0 (AsI i n GI G GT GN w) := by
  rintro s Wa Wb row ⟨⟨h1, ⟨cs, h2, h3⟩, h4, h5⟩, h7⟩ hg hr
  refine ⟨⟨box_ownD h1 hg hr, ⟨cs, box_ownD h2 hg hr, h3⟩, box_ownD h4 hg hr, box_ownD h5 hg hr⟩, h7.grown hg h7.size fun k e => ?_⟩
  exact Nat.le_trans hB (hr k e).1

theorem Box.farD {w : World} {G H : Nat} {t : TypeId} {cs : Array Value} (h : Box w G t cs) (hne : H ≠ G) (i : Nat) (v : Value) : Box (w.setCell ⟨H, i, none⟩ v) G t cs := by
  unfold Box at h ⊢
  simp [World.setCell, Array.getElem?_modify, hne, h]

theorem Tryd.infoByteD : (Tryd.prog.info? 5).map (fun i => (i.zero, i.size, i.bytes)) = some (some (.int .u8 0), 1, 1) := by kernel_rfl

theorem mk_byteD (n : Nat) (hn : n ≤ 1048576) (w : World) :
    (Instr.makeSlice 33 (.int .i64 (n : Int)) (.int .i64 (n : Int))).run Tryd.prog w = .ok (.slice (some ⟨w.heap.size, 0, none⟩) n n) (w.alloc (.cells (madeCells #[.int .u8 0] n) 5)) := by
  obtain ⟨i, hi, hzz⟩ := Option.map_eq_some_iff.1 Tryd.infoByteD
  simp only [Prod.mk.injEq] at hzz
  obtain ⟨hz, hs, hb⟩ := hzz
  have hr := run_make (P := Tryd.prog) w 33 5 i _ Tryd.underlying33 hi hz .i64 .i64 n n (by omega) (Int.le_refl _) (by rw [hb]; omega) (by omega)
  simp only [Int.toNat_natCast, hs, Value.cells, Nat.mul_one] at hr
  exact hr

theorem madeD_at (n j : Nat) (hj : j < n) : (madeCells #[.int .u8 0] n)[j]? = some (.int .u8 0) := by
  have h := size_madeCells #[.int .u8 0] n
  rw [Array.getElem?_eq_getElem (by omega)]
  simp [madeCells, Nat.mod_one]

set_option maxRecDepth 100000 in
set_option maxHeartbeats 4000000 in
theorem asg_in (i n : Nat) (w : World) (hi : i ≤ 1048576) (hn : n ≤ 1024) :
    CallsIn Fence.wide 5 Tryd.prog 10 #[.int .i64 (i : Nat), .int .i64 (n : Nat)] w fun e W' => e = .returned (.string ⟨(bin n i).toArray⟩) ∧ Below w.heap.size w W' := by
  have hmk := mk_byteD n (by omega)
  refine callsIn_of_wp_marks Tryd.func10 rfl trivial ?_ rfl
  simp only [Tryd.ntmps10, List.size_toArray, List.length_cons, List.length_nil, Nat.reduceAdd, Nat.reduceSub, Array.replicate_succ, Array.replicate_zero, List.push_toArray, List.append_toArray, List.nil_append, List.cons_append]
  gi_wp2_with fail
  refine ⟨trivial, ?_⟩
  refine (backD_in Fence.wide _ trivial rfl _ _ _ _).mono ?_
  rintro e w' ⟨rfl, rfl⟩
  have e0 : ∀ (W : World) (o : Obj), (W.alloc o).heap.size = W.heap.size + 1 := fun W o => by simp
  obtain ⟨w1, hw1⟩ : ∃ w1, w1 = w.alloc (.cells #[.int .i64 (i : Nat)] 3) := ⟨_, rfl⟩
  have z1 : w1.heap.size = w.heap.size + 1 := by rw [hw1, e0]
  have hI1 : Box w1 w.heap.size 3 #[.int .i64 (i : Nat)] := by rw [hw1]; exact Box.new w _ _
  obtain ⟨w2, hw2⟩ : ∃ w2, w2 = w1.alloc (.cells (madeCells #[.int .u8 0] n) 5) := ⟨_, rfl⟩
  have z2 : w2.heap.size = w.heap.size + 1 + 1 := by rw [hw2, e0, z1]
  have hG2 : Box w2 (w.heap.size + 1) 5 (madeCells #[.int .u8 0] n) := by rw [hw2, ← z1]; exact Box.new w1 _ _
  have hI2 : Box w2 w.heap.size 3 #[.int .i64 (i : Nat)] := by rw [hw2]; exact hI1.alloc _
  obtain ⟨w3, hw3⟩ : ∃ w3, w3 = w2.alloc (.cells #[.slice (some ⟨w.heap.size + 1, 0, none⟩) n n] 33) := ⟨_, rfl⟩
  have z3 : w3.heap.size = w.heap.size + 1 + 1 + 1 := by rw [hw3, e0, z2]
  have hT3 : Box w3 (w.heap.size + 1 + 1) 33 #[.slice (some ⟨w.heap.size + 1, 0, none⟩) n n] := by rw [hw3, ← z2]; exact Box.new w2 _ _
  have hG3 : Box w3 (w.heap.size + 1) 5 (madeCells #[.int .u8 0] n) := by rw [hw3]; exact hG2.alloc _
  have hI3 : Box w3 w.heap.size 3 #[.int .i64 (i : Nat)] := by rw [hw3]; exact hI2.alloc _
  obtain ⟨w4, hw4⟩ : ∃ w4, w4 = w3.alloc (.cells #[.slice (some ⟨w.heap.size + 1, 0, none⟩) n n] 33) := ⟨_, rfl⟩
  have z4 : w4.heap.size = w.heap.size + 1 + 1 + 1 + 1 := by rw [hw4, e0, z3]
  have hN4 : Box w4 (w.heap.size + 1 + 1 + 1) 33 #[.slice (some ⟨w.heap.size + 1, 0, none⟩) n n] := by rw [hw4, ← z3]; exact Box.new w3 _ _
  have hT4 : Box w4 (w.heap.size + 1 + 1) 33 #[.slice (some ⟨w.heap.size + 1, 0, none⟩) n n] := by rw [hw4]; exact hT3.alloc _
  have hG4 : Box w4 (w.heap.size + 1) 5 (madeCells #[.int .u8 0] n) := by rw [hw4]; exact hG3.alloc _
  have hI4 : Box w4 w.heap.size 3 #[.int .i64 (i : Nat)] := by rw [hw4]; exact hI3.alloc _
  have hB4 : Below w.heap.size w w4 := by rw [hw4, hw3, hw2, hw1]; exact ((((Below.refl _ w).alloc (Nat.le_refl _) _).alloc (by simp) _).alloc (by simp; omega) _).alloc (by simp; omega) _
  have hst4 : AsI i n w.heap.size (w.heap.size + 1) (w.heap.size + 1 + 1) (w.heap.size + 1 + 1 + 1) w [] w4 := ⟨⟨hI4, ⟨_, hG4, size_madeCells _ _, fun j hj => madeD_at n j hj⟩, hT4, hN4⟩, hB4⟩
  have hrd : ∀ j, j < n → ∃ v : Int, w4.cell? ⟨w.heap.size + 1, j, none⟩ = some (.int .u8 v) := fun j hj => ⟨0, by rw [hG4.cell]; exact madeD_at n j hj⟩
  rw [← hw1, ← hw2, ← hw3, ← hw4]
  rw [z3]
  have HR := Lib.hid hrd
  clear hI1 hG2 hI2 hT3 hG3 hI3 hT4 hG4 hI4 hw1 hw2 hw3 hw4 z1 z2 z3 e0 hmk hrd
  gi_wp2_with fail
  refine wpIn_rangeFunc_ownG rfl (by omega) (gf := 26) (lb := #[.pointer (some ⟨w.heap.size + 1 + 1 + 1, 0, none⟩)]) rfl trivial (enters_of Tryd.func26 (by kernel_rfl) rfl)
    (backD_stops Fence.wide (5 - 1) trivial rfl (by omega) (w.heap.size + 1 + 1 + 1) w.heap.size (w.heap.size + 1) n n (by omega) w4 (by omega) (by omega) (hN4.cell 0) HR.out) KeptD.trans (KeptD.put (by omega) (by omega) (by omega)) (Below.refl _ _) (fun _ => rfl)
    (AsI i n w.heap.size (w.heap.size + 1) (w.heap.size + 1 + 1) (w.heap.size + 1 + 1 + 1) w)
    (fun _ _ _ => False)
    (as_own i n _ _ _ _ w _ (by omega))
    (fun _ _ _ _ _ hs _ _ => hs)
    hst4
    ?a₁ ?assign ?body ?done ?stop
  case assign =>
    intro l x W K hK
    simp only [encY]
    gi_wp2
    exact hK
  case body =>
    rintro l pre ⟨⟨j, hj⟩, v⟩ W ⟨⟨hI, ⟨cs, hG, hcs, hf⟩, hT, hN⟩, hbel⟩ _
    obtain ⟨d, hd⟩ : ∃ d, d = (stB i (pre.map (fun x : Iy n => x.1.1))).1 := ⟨_, rfl⟩
    have hdl : d ≤ 1048576 := by rw [hd]; exact Nat.le_trans (stB_le _ _) hi
    obtain ⟨r, hr⟩ : ∃ r, r = d % 2 := ⟨_, rfl⟩
    have hr2 : r < 2 := by omega
    have ha : bits BinOp.and IntKind.i64 (d : Int) 1 = (r : Int) := by rw [and_oneD d (by omega), hr]
    have wr : IntKind.u8.wrap (r : Int) = (r : Int) := IntWalk.u8_in _ (by omega)
    have ww : IntKind.u8.wrap (48 + (r : Int)) = 48 + (r : Int) := IntWalk.u8_in _ (by omega)
    rw [← hd] at hI
    have HD := Lib.hid hd
    have Hr := Lib.hid hr
    clear hd hr
    have t0 := hT.cell 0
    have i0 := hI.cell 0
    have fi := hI.free 0
    have fj := hG.free j
    have kj : W.cell? ⟨w.heap.size + 1, j, none⟩ = some (.int .u8 ((stB i (pre.map (fun x : Iy n => x.1.1))).2 j : Nat)) := by rw [hG.cell]; exact hf j hj
    have i0' : (W.setCell ⟨w.heap.size + 1, j, none⟩ (.int .u8 (48 + (r : Int)))).cell? ⟨w.heap.size, 0, none⟩ = some (.int .i64 (d : Nat)) := (hI.farD (show w.heap.size + 1 ≠ w.heap.size by omega) j _).cell 0
    have fi' : (W.setCell ⟨w.heap.size + 1, j, none⟩ (.int .u8 (48 + (r : Int)))).frozen? ⟨w.heap.size, 0, none⟩ = false := (hI.farD (show w.heap.size + 1 ≠ w.heap.size by omega) j _).free 0
    have HI := Lib.hid hI
    have HG := Lib.hid hG
    have HT := Lib.hid hT
    have HN := Lib.hid hN
    have Hbel := Lib.hid hbel
    have Hf := Lib.hid hf
    have Hcs := Lib.hid hcs
    clear hI hG hT hN hbel hf hcs
    gi_wp2
    have hst : stB i ((pre ++ [((⟨j, hj⟩, v) : Iy n)]).map (fun x : Iy n => x.1.1)) = (d / 2, fun k => if k = j then 48 + r else (stB i (pre.map (fun x : Iy n => x.1.1))).2 k) := by
      rw [List.map_append, List.map_cons, List.map_nil, stB_snoc, ← HD.out, Hr.out]
    have gI : Box _ w.heap.size 3 #[.int .i64 ((d : Int) / 2)] := (HI.out.farD (show w.heap.size + 1 ≠ w.heap.size by omega) j (.int .u8 (48 + (r : Int)))).set 0 (.int .i64 ((d : Int) / 2))
    have gG := (HG.out.set j (.int .u8 (48 + (r : Int)))).farD (show w.heap.size ≠ w.heap.size + 1 by omega) 0 (.int .i64 ((d : Int) / 2))
    have gT := (HT.out.farD (show w.heap.size + 1 ≠ w.heap.size + 1 + 1 by omega) j (.int .u8 (48 + (r : Int)))).farD (show w.heap.size ≠ w.heap.size + 1 + 1 by omega) 0 (.int .i64 ((d : Int) / 2))
    have gN := (HN.out.farD (show w.heap.size + 1 ≠ w.heap.size + 1 + 1 + 1 by omega) j (.int .u8 (48 + (r : Int)))).farD (show w.heap.size ≠ w.heap.size + 1 + 1 + 1 by omega) 0 (.int .i64 ((d : Int) / 2))
    have hf' : ∀ k, k < n → (cs.setIfInBounds j (.int .u8 (48 + (r : Int))))[k]? = some (.int .u8 ((stB i ((pre ++ [((⟨j, hj⟩, v) : Iy n)]).map (fun x : Iy n => x.1.1))).2 k : Nat)) := fun k hk => by
      rw [hst, Array.getElem?_setIfInBounds]
      by_cases e : j = k
      · have := Hcs.out
        rw [if_pos e, if_pos (by omega)]
        simp [e]
      · rw [if_neg e, Hf.out k hk]
        show _ = some (Value.int .u8 ((if k = j then 48 + r else (stB i (pre.map (fun x : Iy n => x.1.1))).2 k : Nat) : Int))
        rw [if_neg (fun h => e h.symm)]
    refine ⟨((KeepsOthers.setCell _ _ _).trans (KeepsOthers.setCell _ _ _)).from _, ⟨((Below.refl _ W).setCell (p := ⟨w.heap.size + 1, j, none⟩) (Nat.le_succ _) _).setCell (p := ⟨w.heap.size, 0, none⟩) (Nat.le_refl _) _, fun u e => (gN.cell 0).trans ((HN.out.cell 0).symm.trans e), fun k hk _ => ⟨_, (gG.cell k).trans (hf' k hk)⟩⟩, ⟨?_, ⟨_, gG, by rw [Array.size_setIfInBounds]; exact Hcs.out, hf'⟩, gT, gN⟩, (Hbel.out.setCell (p := ⟨w.heap.size + 1, j, none⟩) (Nat.le_succ _) _).setCell (p := ⟨w.heap.size, 0, none⟩) (Nat.le_refl _) _⟩
    rw [hst]
    exact gI
  case done =>
    rintro D ys W hD hys ⟨⟨_, ⟨cs, hG, _, hf⟩, hT, _⟩, hbel⟩ hK
    have hl := bin_len n i
    have hcs : ∀ j (hj : j < (bin n i).length), W.cell? ((⟨w.heap.size + 1, 0, none⟩ : Addr).add j) = some (.int .u8 ((bin n i)[j].toNat : Int)) := by
      intro j hj
      have hjn : j < n := by omega
      have h1 : W.cell? ⟨w.heap.size + 1, j, none⟩ = some (.int .u8 ((bin n i)[j].toNat : Int)) := by
        rw [hG.cell, hf j hjn, hys, (stB_down i n n (Nat.le_refl _)).2 j hjn (by omega), bin_at]
        have : (UInt8.ofNat (48 + i / 2 ^ (n - 1 - j) % 2)).toNat = 48 + i / 2 ^ (n - 1 - j) % 2 := by
          rw [UInt8.toNat_ofNat']
          omega
        rw [this]
      rw [← h1]
      unfold Addr.add
      split
      · rename_i h0
        rw [h0]
      · simp
    have hcv := run_convert_bytes_back (P := Tryd.prog) W 33 9 5 ⟨w.heap.size + 1, 0, none⟩ n (bin n i) Tryd.underlying33 Tryd.underlying5 Tryd.underlying9 hcs
    rw [hl] at hcv
    have t0 := hT.cell 0
    gi_wp2
    refine ⟨by simp, .inl ⟨_, _, rfl, run_takeDeferred hK, ?_⟩⟩
    exact ⟨_, results_tmp rfl _ _ _, rfl, hbel.trans ((belowK_b (w := w4) (Nat.le_refl _) W D _ _ (by omega) hK rfl rfl).mono hB4.size)⟩
  case stop =>
    rintro D c pre W _ _ h _
    exact h.elim

end Go.Proofs.YtfeejdbkolpjoaaDoor
