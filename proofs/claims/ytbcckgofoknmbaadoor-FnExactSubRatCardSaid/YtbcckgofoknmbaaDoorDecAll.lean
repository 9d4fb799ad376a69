/-
  The program's decimal numeral of any number of at most twenty words.
-/
import Derived.Test.YtbcckgofoknmbaaDoorPDec
import Derived.Test.YtbcckgofoknmbaaDoorM2
import Derived.Shelf.RegionOpen
namespace Go.Proofs.YtbcckgofoknmbaaDoor
open Go.RowKit Num Go.Shelf

attribute [local go_sem] Oper.semAt_some

/-- Chunk i of n: nineteen digits. -/
def chk (n i : Nat) : Nat := n / (10000000000000000000 ^ i) % 10000000000000000000
theorem chk_lt (n : Nat) (i : Nat) : chk n i < 10000000000000000000 := Nat.mod_lt _ (by omega)
/-- The text of the chunks below j, the last one first. -/
def flat (n : Nat) : Nat → List UInt8
  | 0 => []
  | j + 1 => padL 19 (chk n j) ++ flat n j
def padC (x : Ch) : List UInt8 := padL 19 x.1.2

theorem flat_len (n j : Nat) : (flat n j).length = 19 * j := by
  induction j with
  | zero => rfl
  | succ j ih => rw [flat, List.length_append, padL_len, ih]; omega

theorem flat_eq (n j : Nat) : (downto (chAt (chk n) (chk_lt n)) j j).flatMap padC = flat n j := by
  induction j with
  | zero => rfl
  | succ j ih =>
    have h : downto (chAt (chk n) (chk_lt n)) (j + 1) (j + 1) = chAt (chk n) (chk_lt n) j :: downto (chAt (chk n) (chk_lt n)) j j := by
      simp only [downto, List.range_succ_eq_map, List.map_cons, List.map_map]
      congr 1
      apply List.map_congr_left
      intro i hi
      simp only [Function.comp]
      congr 1
      omega
    rw [h, List.flatMap_cons, ih, flat]
    rfl

theorem flat_step (n j : Nat) (h : 10000000000000000000 ≤ n / 10000000000000000000 ^ j) (hT : decL (n / 10000000000000000000 ^ j) ++ flat n j = decL n) :
    decL (n / 10000000000000000000 ^ (j + 1)) ++ flat n (j + 1) = decL n := by
  have e1 : n / 10000000000000000000 ^ (j + 1) = n / 10000000000000000000 ^ j / 10000000000000000000 := by rw [Nat.pow_succ, Nat.div_div_eq_div_mul]
  have hp := decL_padL 19 (n / 10000000000000000000 ^ j / 10000000000000000000) (chk n j) (by omega) (chk_lt n j)
  have e2 : 10 ^ 19 * (n / 10000000000000000000 ^ j / 10000000000000000000) + chk n j = n / 10000000000000000000 ^ j := by
    rw [chk]; exact Nat.div_add_mod _ _
  rw [e2] at hp
  rw [e1, flat, ← List.append_assoc, ← hp]
  exact hT

theorem chunk_bound (n j : Nat) (hn : n < 10000000000000000000 ^ 22) (h : 10000000000000000000 ≤ n / 10000000000000000000 ^ j) : j + 1 < 22 := by
  have h1 : 10000000000000000000 ^ (j + 1) ≤ n := by
    rw [Nat.pow_succ, Nat.mul_comm]
    exact (Nat.le_div_iff_mul_le (Nat.pow_pos (by omega))).1 h
  exact (Nat.pow_lt_pow_iff_right (by omega : 1 < 10000000000000000000)).1 (Nat.lt_of_le_of_lt h1 hn)

def slen : Value → Nat
  | .slice _ n _ => n
  | _ => 0

theorem row_len {w : World} {base : Nat} {e : TypeId} {v : Value} {n : Nat} {xs : List Value} (h : w.ownsRow base e 1 v n xs) : ∃ A cap, v = .slice A n cap := by
  rcases h.2 with ⟨rfl, h0⟩ | ⟨g, cap, cur, rfl, _⟩
  · exact ⟨none, 0, by rw [h0]⟩
  · exact ⟨_, cap, rfl⟩

/-- The cells of the chunks. -/
def chCells (n j : Nat) : List Value := (List.range j).map fun i => Value.int .u64 (chk n i : Nat)

theorem chIn_of_row {w : World} {base : Nat} {e : TypeId} {v : Value} {n j : Nat} (h : w.ownsRow base e 1 v j (chCells n j)) : ChIn w.heap.size w v j (chk n) := by
  rcases h.2 with ⟨rfl, h0⟩ | ⟨g, cap, cur, rfl, _, hg, _⟩
  · exact .inl ⟨rfl, h0⟩
  · refine .inr ⟨g, 0, cap, rfl, heap_lt hg, fun i hi => ?_⟩
    have := h.cells (g := g) rfl i (Value.int .u64 (chk n i : Nat)) (by rw [chCells, List.getElem?_map, List.getElem?_range hi]; rfl)
    rw [Lib.add_plain] at this
    exact this

theorem divBase (va : Value) (x : Nat) (w : World) (ha : Nums 64 .u64 WB w va x) (hlx : ln WB x ≤ 1099511627776) :
    Calls Tryd.prog 40 #[va, .int .u64 10000000000000000000] w fun e w' => (∃ v, e = .returned (.tuple #[v, .int .u64 (x % 10000000000000000000 : Nat)]) ∧ Nums 64 .u64 WB w' v (x / 10000000000000000000) ∧ v.ownBlock = some w.heap.size) ∧ Below w.heap.size w w' :=
  divWord_new va x 10000000000000000000 w ha (by omega) (by unfold WB; omega) hlx

theorem chCells_succ (n j : Nat) : chCells n (j + 1) = chCells n j ++ [.int .u64 (chk n j : Nat)] := by simp [chCells, List.range_succ]

/-- One word at least ten to the nineteenth. -/
theorem ln_big {N : Nat} (h : 10000000000000000000 ≤ N) : 1 ≤ ln WB N := lnz (b := WB) WB_two (by omega)
theorem dig_one {N : Nat} (h : ln WB N = 1) : (digs WB N).getD 0 0 = N := by
  show dg WB N 0 = N
  rw [dg_zero WB N WB_two]
  have h1 := lt_pow_ln WB N WB_two
  rw [h, Nat.pow_one] at h1
  exact Nat.mod_eq_of_lt h1

/-- The text when the chunks pre have come. -/
def txt (N : Nat) (pre : List Ch) : List UInt8 := decL N ++ pre.flatMap padC
theorem txt_nil (N : Nat) : txt N [] = decL N := by simp [txt]
theorem txt_snoc (N : Nat) (pre : List Ch) (x : Ch) : txt N (pre ++ [x]) = txt N pre ++ padC x := by simp [txt]

theorem keeps_of_below {X Y : World} (h : Below X.heap.size X Y) : KeepsOthers X Y := ⟨h.size, fun k _ hk _ => (h.block k (heap_lt hk)).trans hk⟩

theorem txt_len (N : Nat) (pre : List Ch) (h : N < 10000000000000000000) : (txt N pre).length ≤ 19 + 19 * pre.length := by
  have h1 := decL_le 19 N (by omega) h
  have h2 : (pre.flatMap padC).length = 19 * pre.length := by
    induction pre with
    | nil => rfl
    | cons x pre ih => rw [List.flatMap_cons, List.length_append, ih, padC, padL_len, List.length_cons]; omega
  rw [txt, List.length_append, h2]; omega

theorem txt_pos (N : Nat) (pre : List Ch) : 0 < (txt N pre).length := by
  rw [txt, List.length_append]; have := decL_pos N; omega

theorem Tryd.info_u8 : (Tryd.prog.info? 5).map (fun i => (i.zero, i.size, i.bytes)) = some (some (.int .u8 0), 1, 1) := by kernel_rfl

theorem ready_append_str {F : Fence} {n' : Nat} {P : Program} {w : World} {ops : Array Oper} {o : Oper} {a : Act} {K : Act → World → Prop} {Q : Exit → Act → World → Prop} (hgd : o.guard = none) (sl x : Operand) (t u : TypeId)
    (ho : o.op = .call { callee := .builtin .append, args := #[sl, x], argTypes := #[t, u] })
    (base : Nat) (e : TypeId) (i : TypeInfo) (ht : P.underlying t = some (.slice e)) (hu : P.underlying u = some .string) (hi : P.info? e = some i) (hz : i.zero = some (.int .u8 0))
    (hsize : i.size = 1) (hby : i.bytes = 1)
    (v : Value) (n : Nat) (xs : List Value) (hs : a.eval sl = v) (hown : w.ownsRow base e 1 v n xs) (s : ByteArray) (hx : a.eval x = .string s)
    (h63 : n + s.size ≤ maxLen) (hbytes : n + s.size ≤ 140737488355328) (hbase : base ≤ w.heap.size)
    (h : ∀ v' w', w'.ownsRow base e 1 v' (n + s.size) (xs ++ Lib.strCells s) → w.grownBy w' v.ownBlock → K (a.put o.dst v') w') :
    if Region.wanted o (yielded ops a.tmps) = true then Oper.wpIn F n' P o a w K Q else (∀ f, o.about P w a.eval = some f → F.fn f) ∧ K (a.put o.dst undef) w := by
  rw [if_pos (by simp [Region.wanted, hgd])]
  obtain ⟨v', w', hrun, r1, r2, r3⟩ := Lib.run_append_own_string (P := P) w base t u o.type e i ht hu hi hz hsize hby v n xs hown s h63 hbytes hbase
  unfold Oper.wpIn
  refine ⟨?_, ?_⟩
  · simp [Oper.about, ho, resolve, Target.leads, Sem.run_pure]
  · rw [Oper.semAt_plain F _ _ (by rw [ho]; intro c hc'; cases hc')]
    simp [execOp, ho, resolve, invoke, builtin, hs, hx, hrun, Result.andThen]
    exact h v' w' r1 r2

theorem rep_size (k : Nat) : (⟨Array.replicate k (48 : UInt8)⟩ : ByteArray).size = k := by simp [ByteArray.size]

theorem txt_grow (N : Nat) (pre : List Ch) (xi c : Nat) (hcl : c < 10000000000000000000) : (txt N pre).length + (19 - (decL c).length) + (decL c).length = (txt N (pre ++ [⟨(xi, c), hcl⟩])).length := by
  have h := decL_le 19 c (by omega) hcl
  rw [txt_snoc, List.length_append, padC, padL_len]; omega

theorem body_end {n₀ B0 Bt Bn n5 : Nat} {wr W W1 W2 W4 W6 : World} {T8 T64 e : TypeId} {N c xi : Nat} {pre : List Ch} {v5 vC : Value} (hcl : c < 10000000000000000000) (hn0 : n₀ ≤ W.heap.size) (hB2 : Below n₀ wr W) (hf : Below W.heap.size W W1) (hz : Below W1.heap.size W1 W2)
    (hk4 : KeepsOthers W2 W4) (hk5 : Below n₀ W2 W4) (m4 : KeepsOthers W4 W6) (m5 : Below n₀ W4 W6) (m2 : Boxed W6 Bt T8 v5)
    (m3 : W6.ownsRow n₀ e 1 v5 n5 ((Lib.byteCells (txt N pre) ++ Lib.strCells ⟨Array.replicate (19 - (decL c).length) 48⟩) ++ Lib.strCells (dec c)))
    (hn5 : n5 = (txt N (pre ++ [⟨(xi, c), hcl⟩])).length) (hbN : Boxed W Bn T64 vC) (hN6 : Boxed W6 Bn T64 vC) :
    KeepsFrom B0 W W6 ∧ Kept Bn n₀ W W6 ∧ ((∃ v, Boxed W6 Bt T8 v ∧ W6.ownsRow n₀ e 1 v (txt N (pre ++ [⟨(xi, c), hcl⟩])).length (Lib.byteCells (txt N (pre ++ [⟨(xi, c), hcl⟩]))) ∧ True) ∧ Boxed W6 Bn T64 vC) ∧ Below n₀ wr W6 := by
  have hbe : Below n₀ W W6 := ((hf.mono hn0).trans (hz.mono (Nat.le_trans hn0 hf.size))).trans (hk5.trans m5)
  have hko : KeepsOthers W W6 := ((keeps_of_below hf).trans (keeps_of_below hz)).trans (hk4.trans m4)
  refine ⟨hko.from _, ⟨hbe, fun v hv => ?_⟩, ⟨⟨v5, m2, ?_, trivial⟩, hN6⟩, hB2.trans hbe⟩
  · rw [hbN.cell] at hv; rw [hN6.cell]; exact hv
  · rw [← hn5]
    have e1 : Lib.byteCells (txt N (pre ++ [⟨(xi, c), hcl⟩])) = (Lib.byteCells (txt N pre) ++ Lib.strCells ⟨Array.replicate (19 - (decL c).length) 48⟩) ++ Lib.strCells (dec c) := by
      rw [txt_snoc, padC, padL_eq 19 c (by omega) hcl]
      simp [Lib.byteCells, Lib.strCells, dec]
    rw [e1]; exact m3

theorem row_lt {w : World} {base : Nat} {e : TypeId} {v : Value} {n : Nat} {xs : List Value} (h : w.ownsRow base e 1 v n xs) : ∀ g, v.ownBlock = some g → base ≤ g ∧ g < w.heap.size := by
  intro g hg
  rcases h.2 with ⟨rfl, _⟩ | ⟨g', cap, cur, rfl, hb, hgb, _⟩
  · simp [Value.ownBlock] at hg
  · obtain rfl : g' = g := by simpa [Value.ownBlock] using hg
    exact ⟨hb, heap_lt hgb⟩

theorem grown_nums {w w1 w2 : World} {o : Obj} {v c : Value} {x base : Nat} (hv : Nums 64 .u64 WB w1 v x) (ho : v.ownBlock = some w.heap.size) (hc : ∀ g, c.ownBlock = some g → base ≤ g ∧ g < w.heap.size) (hg : (w1.alloc o).grownBy w2 c.ownBlock) : Nums 64 .u64 WB w2 v x := by
  rcases hv with h | ⟨b, off, cap, rfl, h1, h2, ⟨cs, h3⟩, h4⟩
  · exact .inl h
  · have hb : b = w.heap.size := by simpa [Value.ownBlock] using ho
    have hlt : b < w1.heap.size := heap_lt h3
    have hne : some b ≠ c.ownBlock := fun e => by have := (hc b e.symm).2; omega
    have hk : w2.heap[b]? = w1.heap[b]? := (hg.block b (by simp; omega) hne).trans (Below.heap_alloc w1 o b hlt)
    refine .inr ⟨b, off, cap, rfl, h1, h2, ⟨cs, hk.trans h3⟩, fun j hj => ?_⟩
    have := h4 j hj
    simp only [World.cell?] at this ⊢
    rw [hk]; exact this

theorem below_grown2 {B : Nat} {w w1 w2 wr : World} {o : Obj} {c : Value} {e : TypeId} {n : Nat} {xs : List Value} (h : Below B w w1) (hg : (w1.alloc o).grownBy w2 c.ownBlock) (hr : wr.ownsRow B e 1 c n xs) (hB : B ≤ w1.heap.size) : Below B w w2 :=
  (h.alloc hB o).grown hg (by simp; omega) fun k hk => (row_lt hr k hk).1

set_option maxRecDepth 100000 in
set_option maxHeartbeats 4000000 in
theorem decG_in (n : Nat) (v : Value) (w : World) (hv : Nums 64 .u64 WB w v n) (hn : n < 10000000000000000000 ^ 22) (hP : TabP w) :
    CallsIn Fence.wide 5 Tryd.prog 27 #[v] w fun e W' => e = .returned (.string (dec n)) ∧ Below w.heap.size w W' := by
  have HP := Lib.hid hP; clear hP
  have Hv := Lib.hid hv
  have Hn := Lib.hid hn; clear hn
  obtain ⟨A0, cap0, rfl, _, _, _⟩ := RowF.open hv
  clear hv
  obtain ⟨i0, hi, hz0, hz1, hz2⟩ := info_parts Tryd.info_u64p
  obtain ⟨i8, hi8, hz8, hs8, hb8⟩ := info_parts Tryd.info_u8
  refine callsIn_of_wp_marks Tryd.func27 rfl trivial ?_ rfl
  simp only [Tryd.ntmps27, List.size_toArray, List.length_cons, List.length_nil, Nat.reduceAdd, Nat.reduceSub, Array.replicate_succ, Array.replicate_zero, List.push_toArray, List.append_toArray, List.nil_append, List.cons_append]
  gi_wp2_with fail
  gi_loopw [0, 3, 4] (fun x c k wr => ∃ j : Nat, (j ≤ 22 ∧ decL (n / 10000000000000000000 ^ j) ++ flat n j = decL n) ∧ Nums 64 .u64 WB wr x (n / 10000000000000000000 ^ j) ∧ wr.ownsRow w.heap.size 64 1 c j (chCells n j) ∧ Below w.heap.size w wr) (fun _ c _ _ => 22 - slen c)
  case atStart =>
    refine ⟨0, ⟨by omega, by simp [flat]⟩, ?_, World.ownsRow_nil _ _ _ _, Below.refl _ _⟩
    rw [Nat.pow_zero, Nat.div_one]; exact Hv.out
  case round =>
    obtain ⟨j, hj, hx, hrow, hB⟩ := hrel
    obtain ⟨N, hN⟩ : ∃ N, N = n / 10000000000000000000 ^ j := ⟨_, rfl⟩
    rw [← hN] at hx hj
    obtain ⟨Ax, cx, rfl, hcx, hcx', hAx⟩ := RowF.open hx
    obtain ⟨Ac, cc, rfl⟩ := row_len hrow
    have Hx := Lib.hid hx; clear hx
    have Hrow := Lib.hid hrow; clear hrow
    have HB := Lib.hid hB; clear hB
    have Hj := Lib.hid hj; clear hj
    have HN := Lib.hid hN; clear hN
    by_cases hbig : 10000000000000000000 ≤ N
    · have hj1 : j + 1 < 22 := chunk_bound n j Hn.out (by rw [← HN.out]; exact hbig)
      have hstep := flat_step n j (by rw [← HN.out]; exact hbig) (by rw [← HN.out]; exact Hj.out.2)
      have hch : N % 10000000000000000000 = chk n j := by rw [chk, ← HN.out]
      have hdv : N / 10000000000000000000 = n / 10000000000000000000 ^ (j + 1) := by rw [HN.out, Nat.pow_succ, Nat.div_div_eq_div_mul]
      have hlN : ln WB N ≤ 1099511627776 := Nat.le_trans (ln_mono WB _ n WB_two (by rw [HN.out]; exact Nat.div_le_self _ _)) (Nat.le_trans (ln_le_of_lt WB n 22 WB_two (Nat.lt_of_lt_of_le Hn.out (Nat.pow_le_pow_left (by unfold WB; omega) 22))) (by omega))
      have Hstep := Lib.hid hstep; clear hstep
      have Hch := Lib.hid hch; clear hch
      have Hdv := Lib.hid hdv; clear hdv
      have HlN := Lib.hid hlN; clear hlN
      by_cases hl1 : 1 < ln WB N
      · have hc1 : decide ((1 : Int) < (ln WB N : Int)) = true := by rw [decide_eq_true_iff]; omega
        clear hbig hl1
        gi_wp2_with fail
        refine ⟨trivial, ?_⟩
        refine (callsIn_wide.2 (divBase _ N _ Hx.out HlN.out)).mono ?_
        rintro e w1 ⟨⟨v', rfl, hv', ho'⟩, hb1⟩
        have hrow1 := below_own Hrow.out hb1 (Nat.le_refl _)
        have hs1 := HB.out.size
        have hs2 := hb1.size
        gi_wp2_with (gi_at_builtin; refine wpListIn_append_own _ rfl _ _ 40 rfl w.heap.size 64 i0 (.int .u64 0) 1 8 Tryd.underlying40 hi hz0 hz1 hz2 rfl (by decide) _ j (chCells n j) rfl (hrow1.alloc _) ⟨w1.heap.size, 0, none⟩ 1 1 [.int .u64 ((N : Int) % 10000000000000000000)] rfl rfl (cell_one_new _ _ _) (one_int _ _) (by unfold maxLen; omega) (by omega) (by simp; omega) ?_; intro v2 w2 hown' hgrow _; obtain ⟨g', cap', rfl⟩ := ownsRow_succ hown')
        refine ⟨⟨j + 1, ⟨by omega, Hstep.out⟩, ?_, ?_, ?_⟩, by simp [slen]; omega⟩
        · rw [← Hdv.out]
          exact grown_nums hv' ho' (row_lt Hrow.out) hgrow
        · rw [chCells_succ, ← Hch.out]; exact hown'
        · exact below_grown2 (HB.out.trans (hb1.mono hs1)) hgrow Hrow.out (by omega)
      · have hl2 : ln WB N = 1 := by have := ln_big hbig; omega
        have hx1 := Hx.out
        obtain ⟨b, off, rfl, hcell⟩ := hAx.at_ (j := 0) (by omega)
        rw [dig_one hl2, Nat.add_zero] at hcell
        rw [hl2] at hx1 ⊢
        have Hx1 := Lib.hid hx1; clear hx1 Hx
        have hc1 : decide ((10000000000000000000 : Int) ≤ (N : Int)) = true := by rw [decide_eq_true_iff]; omega
        clear hbig hl1 hAx
        gi_wp2_with fail
        refine ⟨trivial, ?_⟩
        refine (callsIn_wide.2 (divBase _ N _ Hx1.out HlN.out)).mono ?_
        rintro e w1 ⟨⟨v', rfl, hv', ho'⟩, hb1⟩
        have hrow1 := below_own Hrow.out hb1 (Nat.le_refl _)
        have hs1 := HB.out.size
        have hs2 := hb1.size
        gi_wp2_with (gi_at_builtin; refine wpListIn_append_own _ rfl _ _ 40 rfl w.heap.size 64 i0 (.int .u64 0) 1 8 Tryd.underlying40 hi hz0 hz1 hz2 rfl (by decide) _ j (chCells n j) rfl (hrow1.alloc _) ⟨w1.heap.size, 0, none⟩ 1 1 [.int .u64 ((N : Int) % 10000000000000000000)] rfl rfl (cell_one_new _ _ _) (one_int _ _) (by unfold maxLen; omega) (by omega) (by simp; omega) ?_; intro v2 w2 hown' hgrow _; obtain ⟨g', cap', rfl⟩ := ownsRow_succ hown')
        refine ⟨⟨j + 1, ⟨by omega, Hstep.out⟩, ?_, ?_, ?_⟩, by simp [slen]; omega⟩
        · rw [← Hdv.out]
          exact grown_nums hv' ho' (row_lt Hrow.out) hgrow
        · rw [chCells_succ, ← Hch.out]; exact hown'
        · exact below_grown2 (HB.out.trans (hb1.mono hs1)) hgrow Hrow.out (by omega)
    · have hl01 : ln WB N ≤ 1 := ln_le_of_lt WB N 1 WB_two (by unfold WB; omega)
      by_cases hl1 : ln WB N = 1
      · have hx1 := Hx.out
        obtain ⟨b, off, rfl, hcell⟩ := hAx.at_ (j := 0) (by omega)
        rw [dig_one hl1, Nat.add_zero] at hcell
        rw [hl1]
        have hc1 : decide ((10000000000000000000 : Int) ≤ (N : Int)) = false := by rw [decide_eq_false_iff_not]; omega
        have hNb : N < 10000000000000000000 := by omega
        clear hbig hl1 hAx hx1 hl01 Hx
        gi_wp2_with fail
        refine ⟨trivial, ?_⟩
        refine (callsIn_wide.2 (appendUint_nil N (by omega) _ (staysP.below _ _ HP.out HB.out))).mono ?_
        rintro e w1 ⟨⟨v1, rfl, hown⟩, hb1⟩
        obtain ⟨g, cap', rfl, hg1, hg2⟩ := own_form hown (decL_pos N)
        gi_wp2_with fail
        refine ⟨trivial, ?_⟩
        refine (back_in Fence.wide _ trivial rfl _ _ _ _).mono ?_
        rintro e w' ⟨rfl, rfl⟩
        gi_wp2_with fail
        have hs1 := HB.out.size
        have hs2 := hb1.size
        have bT := (Boxed.new w1 74 (.slice (some ⟨g, 0, none⟩) (decL N).length cap')).alloc (.cells #[.slice Ac j cc] 40)
        have bN := Boxed.new (w1.alloc (.cells #[.slice (some ⟨g, 0, none⟩) (decL N).length cap'] 74)) 40 (.slice Ac j cc)
        rw [World.size_alloc] at bN
        have hown0 := (hown.alloc (.cells #[.slice (some ⟨g, 0, none⟩) (decL N).length cap'] 74)).alloc (.cells #[.slice Ac j cc] 40)
        have hB0 : Below wr.heap.size wr ((w1.alloc (.cells #[.slice (some ⟨g, 0, none⟩) (decL N).length cap'] 74)).alloc (.cells #[.slice Ac j cc] 40)) := (hb1.alloc hs2 _).alloc (by simp; omega) _
        have hI := (chIn_of_row Hrow.out).below hB0
        have HT := Lib.hid (staysP.below _ _ HP.out HB.out)
        refine wpIn_rangeFunc_ownG rfl (by omega) (gf := 63) (lb := #[.pointer (some ⟨w1.heap.size + 1, 0, none⟩)]) rfl trivial (enters_of Tryd.func63 (by kernel_rfl) rfl)
          (back_stops Fence.wide (5 - 1) trivial rfl (by omega) (w1.heap.size + 1) wr.heap.size (.slice Ac j cc) j (chk n) (chk_lt n) (by have := Hj.out.1; omega) _ (by simp) (by simp; omega) bN.cell hI) Kept.trans (Kept.put (by simp; omega) (by simp)) (Below.refl _ _) (fun _ => rfl)
          (fun pre W => ((∃ v, Boxed W w1.heap.size 74 v ∧ W.ownsRow wr.heap.size 5 1 v (txt N pre).length (Lib.byteCells (txt N pre)) ∧ True) ∧ Boxed W (w1.heap.size + 1) 40 (.slice Ac j cc)) ∧ Below wr.heap.size wr W)
          (fun _ _ _ => False)
          (OwnFrom.and (OwnFrom.and (Own.from (holdsRow_own wr.heap.size w1.heap.size 74 5 1 (fun pre => (txt N pre).length) (fun pre => Lib.byteCells (txt N pre)) (fun _ _ => True)) _) (Own.from (boxed_own (w1.heap.size + 1) 40 (fun _ => .slice Ac j cc)) _)) (ownFrom_below (by omega) (by simp; omega)))
          (fun _ _ _ _ _ hs _ _ => hs)
          ⟨⟨⟨_, bT, by rw [txt_nil]; exact hown0, trivial⟩, bN⟩, hB0⟩
          ?a₁ ?assign ?body ?done ?stop
        case assign =>
          intro l x W K hK
          simp only [encCh]
          gi_wp2
          exact hK
        case body =>
          rintro l pre ⟨⟨xi, c⟩, hcl⟩ W ⟨⟨⟨v, hbx, hrw, -⟩, hbN⟩, hB2⟩ hlen
          replace hcl : c < 10000000000000000000 := hcl
          dsimp only
          have hT' := staysP.below _ _ HT.out hB2
          have hbx0 := hbx.cell
          have hbf0 := hbx.frozen
          gi_wp2_with fail
          refine ⟨trivial, ?_⟩
          gi_at_call 43
          refine (CallsIn.inRound l (callsIn_wide.2 (fmt_any c (by omega) W hT'))).mono ?_
          rintro e W1 ⟨rfl, hf⟩
          have hbx1 : Boxed W1 w1.heap.size 74 v := (hf.block _ hbx.lt).trans hbx
          have hbN1 : Boxed W1 (w1.heap.size + 1) 40 (.slice Ac j cc) := (hf.block _ hbN.lt).trans hbN
          have hrw1 := below_own hrw hf (Nat.le_refl _)
          have hlW := Nat.le_trans hB2.size (Nat.le_refl _)
          clear hbx0 hbf0 hbx hrw
          have hbx0 := hbx1.cell
          have hbf0 := hbx1.frozen
          have hd : 1 ≤ 5 - 1 - 1 := by omega
          have hmx : Tryd.prog.follows .mixedOrders = true := by kernel_rfl
          have hm := decL_le 19 c (by omega) hcl
          have hm1 := decL_pos c
          have hsub : IntKind.i64.wrap (19 - ((decL c).length : Int)) = ((19 - (decL c).length : Nat) : Int) := by rw [IntWalk.i64_in _ (by omega)]; omega
          have hlw : wr.heap.size ≤ W1.heap.size := Nat.le_trans hB2.size hf.size
          have hds := dec_size c
          have hpl := txt_len N pre hNb
          have htp := txt_pos N pre
          have hpre : pre.length ≤ 22 := by have := Hj.out.1; omega
          gi_wp2_with fail
          refine wpIn_region_any (by assumption) ?_
          change wpAnyIn _ _ _ _ _ _ _ _ _ (World.drew _)
          refine wpAnyIn_ready (rs := [0, 1]) (by kernel_rfl) (by simp) ?_
          refine AllReadyIn.cons rfl (fun K hK => ?_) ?_
          · go_simp
            refine hK _ _ ?_
            clear hK K
            refine wpAnyIn_ready (rs := [1]) (by kernel_rfl) (by simp) ?_
            refine AllReadyIn.cons rfl (fun K hK => ?_) AllReadyIn.nil
            go_simp
            refine hK _ _ ?_
            clear hK K
            refine wpAnyIn_ready (rs := [2]) (by kernel_rfl) (by simp) ?_
            refine AllReadyIn.cons rfl (fun K hK => ?_) AllReadyIn.nil
            go_simp
            refine hK _ _ ?_
            clear hK K
            refine wpAnyIn_ready (rs := [3]) (by kernel_rfl) (by simp) ?_
            refine AllReadyIn.cons rfl (fun K hK => ?_) AllReadyIn.nil
            go_simp
            refine hK _ _ ?_
            clear hK K
            refine wpAnyIn_ready (rs := [4]) (by kernel_rfl) (by simp) ?_
            refine AllReadyIn.cons rfl (fun K hK => ?_) AllReadyIn.nil
            go_simp
            gi_wp2_with (refine ⟨trivial, ?_⟩; gi_at_call 44; refine (CallsIn.inRound l (callsIn_wide.2 (zeros_any (19 - (decL c).length) (by omega) _))).mono ?_; rintro e W2 ⟨rfl, hz⟩; replace hz := below_of_drew hz; have hbx2 : Boxed W2 w1.heap.size 74 v := (hz.block _ hbx1.lt).trans hbx1; have hbN2 : Boxed W2 (w1.heap.size + 1) 40 (.slice Ac j cc) := (hz.block _ hbN1.lt).trans hbN1; have hrw2 := below_own hrw1 hz (Nat.le_refl _); have hbx3 := hbx2.cell; have hbf3 := hbx2.frozen; have hlw2 : wr.heap.size ≤ W2.heap.size := Nat.le_trans hlw hz.size)
            refine wpAnyIn_ready (rs := [5]) (by kernel_rfl) (by simp) ?_
            refine AllReadyIn.cons rfl (fun K hK => ready_append_str rfl _ _ 74 9 rfl wr.heap.size 5 i8 Tryd.underlying74 Tryd.underlying9 hi8 hz8 hs8 hb8 _ _ _ rfl hrw2 _ rfl (by unfold maxLen; rw [rep_size]; omega) (by rw [rep_size]; omega) hlw2 ?_) AllReadyIn.nil
            intro v3 W3 hown3 hg3
            rw [rep_size] at hown3
            obtain ⟨g3, cap3, rfl, _, _⟩ := own_form hown3 (by omega)
            have hN3 : Boxed W3 (w1.heap.size + 1) 40 (.slice Ac j cc) := hbN2.kept hg3 (hbN2.not_row (by decide) hrw2)
            obtain ⟨hk1, hk2, hk3, hk4, hk5⟩ := boxed_appended hbx2 (by decide) hrw2 hlw2 (by omega) hown3 hg3
            have hbx4 := hk1.cell
            have hbf4 := hk1.frozen
            refine hK _ _ ?_
            clear hK K
            refine wpAnyIn_ready (rs := [6]) (by kernel_rfl) (by simp) ?_
            refine AllReadyIn.cons rfl (fun K hK => ?_) AllReadyIn.nil
            go_simp
            refine hK _ _ ?_
            clear hK K
            refine wpAnyIn_done (by kernel_rfl) ?_ _
            have hN4 := hN3.other (by omega : w1.heap.size + 1 ≠ w1.heap.size) (.slice (some ⟨g3, 0, none⟩) ((txt N pre).length + (19 - (decL c).length)) cap3)
            have hlw4 := Nat.le_trans hlw2 hk4.size
            have hbx5 := hk2.cell
            have hbf5 := hk2.frozen
            clear hbx4 hbf4 hbx3 hbf3
            gi_wp2_with (gi_at_builtin; refine wpListIn_append_str _ rfl _ _ 74 9 rfl wr.heap.size 5 i8 Tryd.underlying74 Tryd.underlying9 hi8 hz8 hs8 hb8 _ _ _ rfl hk3 _ rfl (by unfold maxLen; rw [hds]; omega) (by rw [hds]; omega) hlw4 ?_; intro v5 W5 hown5 hg5; rw [hds] at hown5; obtain ⟨g5, cap5, rfl, _, _⟩ := own_form hown5 (by omega); obtain ⟨m1, m2, m3, m4, m5⟩ := boxed_appended hk2 (by decide) hk3 hlw4 (by omega) hown5 hg5; have hN6 := (hN4.kept hg5 (hN4.not_row (by decide) hk3)).other (by omega : w1.heap.size + 1 ≠ w1.heap.size) (.slice (some ⟨g5, 0, none⟩) ((txt N pre).length + (19 - (decL c).length) + (decL c).length) cap5); have hbx6 := m1.cell; have hbf6 := m1.frozen)
            exact body_end hcl hlW hB2 hf hz hk4 hk5 m4 m5 m2 m3 (txt_grow N pre xi c hcl) hbN hN6
          · refine AllReadyIn.cons rfl (fun K hK => ?_) AllReadyIn.nil
            go_simp
            refine hK _ _ ?_
            clear hK K
            refine wpAnyIn_ready (rs := [0, 2]) (by kernel_rfl) (by simp) ?_
            refine AllReadyIn.cons rfl (fun K hK => ?_) ?_
            · go_simp
              refine hK _ _ ?_
              clear hK K
              refine wpAnyIn_ready (rs := [2]) (by kernel_rfl) (by simp) ?_
              refine AllReadyIn.cons rfl (fun K hK => ?_) AllReadyIn.nil
              go_simp
              refine hK _ _ ?_
              clear hK K
              refine wpAnyIn_ready (rs := [3]) (by kernel_rfl) (by simp) ?_
              refine AllReadyIn.cons rfl (fun K hK => ?_) AllReadyIn.nil
              go_simp
              refine hK _ _ ?_
              clear hK K
              refine wpAnyIn_ready (rs := [4]) (by kernel_rfl) (by simp) ?_
              refine AllReadyIn.cons rfl (fun K hK => ?_) AllReadyIn.nil
              go_simp
              gi_wp2_with (refine ⟨trivial, ?_⟩; gi_at_call 44; refine (CallsIn.inRound l (callsIn_wide.2 (zeros_any (19 - (decL c).length) (by omega) _))).mono ?_; rintro e W2 ⟨rfl, hz⟩; replace hz := below_of_drew hz; have hbx2 : Boxed W2 w1.heap.size 74 v := (hz.block _ hbx1.lt).trans hbx1; have hbN2 : Boxed W2 (w1.heap.size + 1) 40 (.slice Ac j cc) := (hz.block _ hbN1.lt).trans hbN1; have hrw2 := below_own hrw1 hz (Nat.le_refl _); have hbx3 := hbx2.cell; have hbf3 := hbx2.frozen; have hlw2 : wr.heap.size ≤ W2.heap.size := Nat.le_trans hlw hz.size)
              refine wpAnyIn_ready (rs := [5]) (by kernel_rfl) (by simp) ?_
              refine AllReadyIn.cons rfl (fun K hK => ready_append_str rfl _ _ 74 9 rfl wr.heap.size 5 i8 Tryd.underlying74 Tryd.underlying9 hi8 hz8 hs8 hb8 _ _ _ rfl hrw2 _ rfl (by unfold maxLen; rw [rep_size]; omega) (by rw [rep_size]; omega) hlw2 ?_) AllReadyIn.nil
              intro v3 W3 hown3 hg3
              rw [rep_size] at hown3
              obtain ⟨g3, cap3, rfl, _, _⟩ := own_form hown3 (by omega)
              have hN3 : Boxed W3 (w1.heap.size + 1) 40 (.slice Ac j cc) := hbN2.kept hg3 (hbN2.not_row (by decide) hrw2)
              obtain ⟨hk1, hk2, hk3, hk4, hk5⟩ := boxed_appended hbx2 (by decide) hrw2 hlw2 (by omega) hown3 hg3
              have hbx4 := hk1.cell
              have hbf4 := hk1.frozen
              refine hK _ _ ?_
              clear hK K
              refine wpAnyIn_ready (rs := [6]) (by kernel_rfl) (by simp) ?_
              refine AllReadyIn.cons rfl (fun K hK => ?_) AllReadyIn.nil
              go_simp
              refine hK _ _ ?_
              clear hK K
              refine wpAnyIn_done (by kernel_rfl) ?_ _
              have hN4 := hN3.other (by omega : w1.heap.size + 1 ≠ w1.heap.size) (.slice (some ⟨g3, 0, none⟩) ((txt N pre).length + (19 - (decL c).length)) cap3)
              have hlw4 := Nat.le_trans hlw2 hk4.size
              have hbx5 := hk2.cell
              have hbf5 := hk2.frozen
              clear hbx4 hbf4 hbx3 hbf3
              gi_wp2_with (gi_at_builtin; refine wpListIn_append_str _ rfl _ _ 74 9 rfl wr.heap.size 5 i8 Tryd.underlying74 Tryd.underlying9 hi8 hz8 hs8 hb8 _ _ _ rfl hk3 _ rfl (by unfold maxLen; rw [hds]; omega) (by rw [hds]; omega) hlw4 ?_; intro v5 W5 hown5 hg5; rw [hds] at hown5; obtain ⟨g5, cap5, rfl, _, _⟩ := own_form hown5 (by omega); obtain ⟨m1, m2, m3, m4, m5⟩ := boxed_appended hk2 (by decide) hk3 hlw4 (by omega) hown5 hg5; have hN6 := (hN4.kept hg5 (hN4.not_row (by decide) hk3)).other (by omega : w1.heap.size + 1 ≠ w1.heap.size) (.slice (some ⟨g5, 0, none⟩) ((txt N pre).length + (19 - (decL c).length) + (decL c).length) cap5); have hbx6 := m1.cell; have hbf6 := m1.frozen)
              exact body_end hcl hlW hB2 hf hz hk4 hk5 m4 m5 m2 m3 (txt_grow N pre xi c hcl) hbN hN6
            · refine AllReadyIn.cons rfl (fun K hK => ?_) AllReadyIn.nil
              go_simp
              refine hK _ _ ?_
              clear hK K
              refine wpAnyIn_ready (rs := [0, 3]) (by kernel_rfl) (by simp) ?_
              refine AllReadyIn.cons rfl (fun K hK => ?_) ?_
              · go_simp
                refine hK _ _ ?_
                clear hK K
                refine wpAnyIn_ready (rs := [3]) (by kernel_rfl) (by simp) ?_
                refine AllReadyIn.cons rfl (fun K hK => ?_) AllReadyIn.nil
                go_simp
                refine hK _ _ ?_
                clear hK K
                refine wpAnyIn_ready (rs := [4]) (by kernel_rfl) (by simp) ?_
                refine AllReadyIn.cons rfl (fun K hK => ?_) AllReadyIn.nil
                go_simp
                gi_wp2_with (refine ⟨trivial, ?_⟩; gi_at_call 44; refine (CallsIn.inRound l (callsIn_wide.2 (zeros_any (19 - (decL c).length) (by omega) _))).mono ?_; rintro e W2 ⟨rfl, hz⟩; replace hz := below_of_drew hz; have hbx2 : Boxed W2 w1.heap.size 74 v := (hz.block _ hbx1.lt).trans hbx1; have hbN2 : Boxed W2 (w1.heap.size + 1) 40 (.slice Ac j cc) := (hz.block _ hbN1.lt).trans hbN1; have hrw2 := below_own hrw1 hz (Nat.le_refl _); have hbx3 := hbx2.cell; have hbf3 := hbx2.frozen; have hlw2 : wr.heap.size ≤ W2.heap.size := Nat.le_trans hlw hz.size)
                refine wpAnyIn_ready (rs := [5]) (by kernel_rfl) (by simp) ?_
                refine AllReadyIn.cons rfl (fun K hK => ready_append_str rfl _ _ 74 9 rfl wr.heap.size 5 i8 Tryd.underlying74 Tryd.underlying9 hi8 hz8 hs8 hb8 _ _ _ rfl hrw2 _ rfl (by unfold maxLen; rw [rep_size]; omega) (by rw [rep_size]; omega) hlw2 ?_) AllReadyIn.nil
                intro v3 W3 hown3 hg3
                rw [rep_size] at hown3
                obtain ⟨g3, cap3, rfl, _, _⟩ := own_form hown3 (by omega)
                have hN3 : Boxed W3 (w1.heap.size + 1) 40 (.slice Ac j cc) := hbN2.kept hg3 (hbN2.not_row (by decide) hrw2)
                obtain ⟨hk1, hk2, hk3, hk4, hk5⟩ := boxed_appended hbx2 (by decide) hrw2 hlw2 (by omega) hown3 hg3
                have hbx4 := hk1.cell
                have hbf4 := hk1.frozen
                refine hK _ _ ?_
                clear hK K
                refine wpAnyIn_ready (rs := [6]) (by kernel_rfl) (by simp) ?_
                refine AllReadyIn.cons rfl (fun K hK => ?_) AllReadyIn.nil
                go_simp
                refine hK _ _ ?_
                clear hK K
                refine wpAnyIn_done (by kernel_rfl) ?_ _
                have hN4 := hN3.other (by omega : w1.heap.size + 1 ≠ w1.heap.size) (.slice (some ⟨g3, 0, none⟩) ((txt N pre).length + (19 - (decL c).length)) cap3)
                have hlw4 := Nat.le_trans hlw2 hk4.size
                have hbx5 := hk2.cell
                have hbf5 := hk2.frozen
                clear hbx4 hbf4 hbx3 hbf3
                gi_wp2_with (gi_at_builtin; refine wpListIn_append_str _ rfl _ _ 74 9 rfl wr.heap.size 5 i8 Tryd.underlying74 Tryd.underlying9 hi8 hz8 hs8 hb8 _ _ _ rfl hk3 _ rfl (by unfold maxLen; rw [hds]; omega) (by rw [hds]; omega) hlw4 ?_; intro v5 W5 hown5 hg5; rw [hds] at hown5; obtain ⟨g5, cap5, rfl, _, _⟩ := own_form hown5 (by omega); obtain ⟨m1, m2, m3, m4, m5⟩ := boxed_appended hk2 (by decide) hk3 hlw4 (by omega) hown5 hg5; have hN6 := (hN4.kept hg5 (hN4.not_row (by decide) hk3)).other (by omega : w1.heap.size + 1 ≠ w1.heap.size) (.slice (some ⟨g5, 0, none⟩) ((txt N pre).length + (19 - (decL c).length) + (decL c).length) cap5); have hbx6 := m1.cell; have hbf6 := m1.frozen)
                exact body_end hcl hlW hB2 hf hz hk4 hk5 m4 m5 m2 m3 (txt_grow N pre xi c hcl) hbN hN6
              · refine AllReadyIn.cons rfl (fun K hK => ?_) AllReadyIn.nil
                go_simp
                refine hK _ _ ?_
                clear hK K
                refine wpAnyIn_ready (rs := [0, 4]) (by kernel_rfl) (by simp) ?_
                refine AllReadyIn.cons rfl (fun K hK => ?_) ?_
                · go_simp
                  refine hK _ _ ?_
                  clear hK K
                  refine wpAnyIn_ready (rs := [4]) (by kernel_rfl) (by simp) ?_
                  refine AllReadyIn.cons rfl (fun K hK => ?_) AllReadyIn.nil
                  go_simp
                  gi_wp2_with (refine ⟨trivial, ?_⟩; gi_at_call 44; refine (CallsIn.inRound l (callsIn_wide.2 (zeros_any (19 - (decL c).length) (by omega) _))).mono ?_; rintro e W2 ⟨rfl, hz⟩; replace hz := below_of_drew hz; have hbx2 : Boxed W2 w1.heap.size 74 v := (hz.block _ hbx1.lt).trans hbx1; have hbN2 : Boxed W2 (w1.heap.size + 1) 40 (.slice Ac j cc) := (hz.block _ hbN1.lt).trans hbN1; have hrw2 := below_own hrw1 hz (Nat.le_refl _); have hbx3 := hbx2.cell; have hbf3 := hbx2.frozen; have hlw2 : wr.heap.size ≤ W2.heap.size := Nat.le_trans hlw hz.size)
                  refine wpAnyIn_ready (rs := [5]) (by kernel_rfl) (by simp) ?_
                  refine AllReadyIn.cons rfl (fun K hK => ready_append_str rfl _ _ 74 9 rfl wr.heap.size 5 i8 Tryd.underlying74 Tryd.underlying9 hi8 hz8 hs8 hb8 _ _ _ rfl hrw2 _ rfl (by unfold maxLen; rw [rep_size]; omega) (by rw [rep_size]; omega) hlw2 ?_) AllReadyIn.nil
                  intro v3 W3 hown3 hg3
                  rw [rep_size] at hown3
                  obtain ⟨g3, cap3, rfl, _, _⟩ := own_form hown3 (by omega)
                  have hN3 : Boxed W3 (w1.heap.size + 1) 40 (.slice Ac j cc) := hbN2.kept hg3 (hbN2.not_row (by decide) hrw2)
                  obtain ⟨hk1, hk2, hk3, hk4, hk5⟩ := boxed_appended hbx2 (by decide) hrw2 hlw2 (by omega) hown3 hg3
                  have hbx4 := hk1.cell
                  have hbf4 := hk1.frozen
                  refine hK _ _ ?_
                  clear hK K
                  refine wpAnyIn_ready (rs := [6]) (by kernel_rfl) (by simp) ?_
                  refine AllReadyIn.cons rfl (fun K hK => ?_) AllReadyIn.nil
                  go_simp
                  refine hK _ _ ?_
                  clear hK K
                  refine wpAnyIn_done (by kernel_rfl) ?_ _
                  have hN4 := hN3.other (by omega : w1.heap.size + 1 ≠ w1.heap.size) (.slice (some ⟨g3, 0, none⟩) ((txt N pre).length + (19 - (decL c).length)) cap3)
                  have hlw4 := Nat.le_trans hlw2 hk4.size
                  have hbx5 := hk2.cell
                  have hbf5 := hk2.frozen
                  clear hbx4 hbf4 hbx3 hbf3
                  gi_wp2_with (gi_at_builtin; refine wpListIn_append_str _ rfl _ _ 74 9 rfl wr.heap.size 5 i8 Tryd.underlying74 Tryd.underlying9 hi8 hz8 hs8 hb8 _ _ _ rfl hk3 _ rfl (by unfold maxLen; rw [hds]; omega) (by rw [hds]; omega) hlw4 ?_; intro v5 W5 hown5 hg5; rw [hds] at hown5; obtain ⟨g5, cap5, rfl, _, _⟩ := own_form hown5 (by omega); obtain ⟨m1, m2, m3, m4, m5⟩ := boxed_appended hk2 (by decide) hk3 hlw4 (by omega) hown5 hg5; have hN6 := (hN4.kept hg5 (hN4.not_row (by decide) hk3)).other (by omega : w1.heap.size + 1 ≠ w1.heap.size) (.slice (some ⟨g5, 0, none⟩) ((txt N pre).length + (19 - (decL c).length) + (decL c).length) cap5); have hbx6 := m1.cell; have hbf6 := m1.frozen)
                  exact body_end hcl hlW hB2 hf hz hk4 hk5 m4 m5 m2 m3 (txt_grow N pre xi c hcl) hbN hN6
                · refine AllReadyIn.cons rfl (fun K hK => ?_) AllReadyIn.nil
                  go_simp
                  gi_wp2_with (refine ⟨trivial, ?_⟩; gi_at_call 44; refine (CallsIn.inRound l (callsIn_wide.2 (zeros_any (19 - (decL c).length) (by omega) _))).mono ?_; rintro e W2 ⟨rfl, hz⟩; replace hz := below_of_drew hz; have hbx2 : Boxed W2 w1.heap.size 74 v := (hz.block _ hbx1.lt).trans hbx1; have hbN2 : Boxed W2 (w1.heap.size + 1) 40 (.slice Ac j cc) := (hz.block _ hbN1.lt).trans hbN1; have hrw2 := below_own hrw1 hz (Nat.le_refl _); have hbx3 := hbx2.cell; have hbf3 := hbx2.frozen; have hlw2 : wr.heap.size ≤ W2.heap.size := Nat.le_trans hlw hz.size)
                  refine wpAnyIn_ready (rs := [0]) (by kernel_rfl) (by simp) ?_
                  refine AllReadyIn.cons rfl (fun K hK => ?_) AllReadyIn.nil
                  go_simp
                  refine hK _ _ ?_
                  clear hK K
                  refine wpAnyIn_ready (rs := [5]) (by kernel_rfl) (by simp) ?_
                  refine AllReadyIn.cons rfl (fun K hK => ready_append_str rfl _ _ 74 9 rfl wr.heap.size 5 i8 Tryd.underlying74 Tryd.underlying9 hi8 hz8 hs8 hb8 _ _ _ rfl hrw2 _ rfl (by unfold maxLen; rw [rep_size]; omega) (by rw [rep_size]; omega) hlw2 ?_) AllReadyIn.nil
                  intro v3 W3 hown3 hg3
                  rw [rep_size] at hown3
                  obtain ⟨g3, cap3, rfl, _, _⟩ := own_form hown3 (by omega)
                  have hN3 : Boxed W3 (w1.heap.size + 1) 40 (.slice Ac j cc) := hbN2.kept hg3 (hbN2.not_row (by decide) hrw2)
                  obtain ⟨hk1, hk2, hk3, hk4, hk5⟩ := boxed_appended hbx2 (by decide) hrw2 hlw2 (by omega) hown3 hg3
                  have hbx4 := hk1.cell
                  have hbf4 := hk1.frozen
                  refine hK _ _ ?_
                  clear hK K
                  refine wpAnyIn_ready (rs := [6]) (by kernel_rfl) (by simp) ?_
                  refine AllReadyIn.cons rfl (fun K hK => ?_) AllReadyIn.nil
                  go_simp
                  refine hK _ _ ?_
                  clear hK K
                  refine wpAnyIn_done (by kernel_rfl) ?_ _
                  have hN4 := hN3.other (by omega : w1.heap.size + 1 ≠ w1.heap.size) (.slice (some ⟨g3, 0, none⟩) ((txt N pre).length + (19 - (decL c).length)) cap3)
                  have hlw4 := Nat.le_trans hlw2 hk4.size
                  have hbx5 := hk2.cell
                  have hbf5 := hk2.frozen
                  clear hbx4 hbf4 hbx3 hbf3
                  gi_wp2_with (gi_at_builtin; refine wpListIn_append_str _ rfl _ _ 74 9 rfl wr.heap.size 5 i8 Tryd.underlying74 Tryd.underlying9 hi8 hz8 hs8 hb8 _ _ _ rfl hk3 _ rfl (by unfold maxLen; rw [hds]; omega) (by rw [hds]; omega) hlw4 ?_; intro v5 W5 hown5 hg5; rw [hds] at hown5; obtain ⟨g5, cap5, rfl, _, _⟩ := own_form hown5 (by omega); obtain ⟨m1, m2, m3, m4, m5⟩ := boxed_appended hk2 (by decide) hk3 hlw4 (by omega) hown5 hg5; have hN6 := (hN4.kept hg5 (hN4.not_row (by decide) hk3)).other (by omega : w1.heap.size + 1 ≠ w1.heap.size) (.slice (some ⟨g5, 0, none⟩) ((txt N pre).length + (19 - (decL c).length) + (decL c).length) cap5); have hbx6 := m1.cell; have hbf6 := m1.frozen)
                  exact body_end hcl hlW hB2 hf hz hk4 hk5 m4 m5 m2 m3 (txt_grow N pre xi c hcl) hbN hN6
        case done =>
          rintro D ys W hD rfl ⟨⟨⟨v, hbx, hrw, -⟩, hbN⟩, hB2⟩ hK
          have hfin : txt N (downto (chAt (chk n) (chk_lt n)) j j) = decL n := by rw [txt, flat_eq]; exact Hj.out.2
          rw [hfin] at hrw
          obtain ⟨g4, cap4, rfl, hg41, hg42⟩ := own_form hrw (decL_pos n)
          have hcs : ∀ i (hi : i < (decL n).length), W.cell? ((⟨g4, 0, none⟩ : Addr).add i) = some (.int .u8 ((decL n)[i].toNat : Int)) := by
            intro i hi
            refine hrw.cells (g := g4) rfl i _ ?_
            rw [Lib.byteCells, List.getElem?_map, List.getElem?_eq_getElem hi]
            rfl
          have hcv := run_convert_bytes_back (P := Tryd.prog) W 74 9 5 ⟨g4, 0, none⟩ cap4 (decL n) Tryd.underlying74 Tryd.underlying5 Tryd.underlying9 hcs
          have hbx0 := hbx.cell
          have HBB := Lib.hid (HB.out.trans (hB2.mono hs1))
          clear hcs hrw hfin
          gi_wp2
          refine ⟨by simp, .inl ⟨_, _, rfl, run_takeDeferred hK, ?_⟩⟩
          exact ⟨_, results_tmp rfl _ _ _, rfl, HBB.out.trans (belowK_b (w := w) (Nat.le_refl _) W D _ _ (by simp at hD; omega) hK rfl rfl)⟩
        case stop =>
          rintro D c pre W _ _ h _
          exact h.elim
      · obtain rfl : N = 0 := by
          rcases Nat.eq_zero_or_pos N with h | h
          · exact h
          · have := lnz (b := WB) WB_two h; omega
        rw [ln_zero]
        have hNb : (0 : Nat) < 10000000000000000000 := by omega
        clear hbig hl1 hAx hl01 Hx
        gi_wp2_with fail
        refine ⟨trivial, ?_⟩
        refine (callsIn_wide.2 (appendUint_nil 0 (by omega) _ (staysP.below _ _ HP.out HB.out))).mono ?_
        rintro e w1 ⟨⟨v1, rfl, hown⟩, hb1⟩
        obtain ⟨g, cap', rfl, hg1, hg2⟩ := own_form hown (decL_pos 0)
        gi_wp2_with fail
        refine ⟨trivial, ?_⟩
        refine (back_in Fence.wide _ trivial rfl _ _ _ _).mono ?_
        rintro e w' ⟨rfl, rfl⟩
        gi_wp2_with fail
        have hs1 := HB.out.size
        have hs2 := hb1.size
        have bT := (Boxed.new w1 74 (.slice (some ⟨g, 0, none⟩) (decL 0).length cap')).alloc (.cells #[.slice Ac j cc] 40)
        have bN := Boxed.new (w1.alloc (.cells #[.slice (some ⟨g, 0, none⟩) (decL 0).length cap'] 74)) 40 (.slice Ac j cc)
        rw [World.size_alloc] at bN
        have hown0 := (hown.alloc (.cells #[.slice (some ⟨g, 0, none⟩) (decL 0).length cap'] 74)).alloc (.cells #[.slice Ac j cc] 40)
        have hB0 : Below wr.heap.size wr ((w1.alloc (.cells #[.slice (some ⟨g, 0, none⟩) (decL 0).length cap'] 74)).alloc (.cells #[.slice Ac j cc] 40)) := (hb1.alloc hs2 _).alloc (by simp; omega) _
        have hI := (chIn_of_row Hrow.out).below hB0
        have HT := Lib.hid (staysP.below _ _ HP.out HB.out)
        refine wpIn_rangeFunc_ownG rfl (by omega) (gf := 63) (lb := #[.pointer (some ⟨w1.heap.size + 1, 0, none⟩)]) rfl trivial (enters_of Tryd.func63 (by kernel_rfl) rfl)
          (back_stops Fence.wide (5 - 1) trivial rfl (by omega) (w1.heap.size + 1) wr.heap.size (.slice Ac j cc) j (chk n) (chk_lt n) (by have := Hj.out.1; omega) _ (by simp) (by simp; omega) bN.cell hI) Kept.trans (Kept.put (by simp; omega) (by simp)) (Below.refl _ _) (fun _ => rfl)
          (fun pre W => ((∃ v, Boxed W w1.heap.size 74 v ∧ W.ownsRow wr.heap.size 5 1 v (txt 0 pre).length (Lib.byteCells (txt 0 pre)) ∧ True) ∧ Boxed W (w1.heap.size + 1) 40 (.slice Ac j cc)) ∧ Below wr.heap.size wr W)
          (fun _ _ _ => False)
          (OwnFrom.and (OwnFrom.and (Own.from (holdsRow_own wr.heap.size w1.heap.size 74 5 1 (fun pre => (txt 0 pre).length) (fun pre => Lib.byteCells (txt 0 pre)) (fun _ _ => True)) _) (Own.from (boxed_own (w1.heap.size + 1) 40 (fun _ => .slice Ac j cc)) _)) (ownFrom_below (by omega) (by simp; omega)))
          (fun _ _ _ _ _ hs _ _ => hs)
          ⟨⟨⟨_, bT, by rw [txt_nil]; exact hown0, trivial⟩, bN⟩, hB0⟩
          ?b₁ ?assign0 ?body0 ?done0 ?stop0
        case assign0 =>
          intro l x W K hK
          simp only [encCh]
          gi_wp2
          exact hK
        case body0 =>
          rintro l pre ⟨⟨xi, c⟩, hcl⟩ W ⟨⟨⟨v, hbx, hrw, -⟩, hbN⟩, hB2⟩ hlen
          replace hcl : c < 10000000000000000000 := hcl
          dsimp only
          have hT' := staysP.below _ _ HT.out hB2
          have hbx0 := hbx.cell
          have hbf0 := hbx.frozen
          gi_wp2_with fail
          refine ⟨trivial, ?_⟩
          gi_at_call 43
          refine (CallsIn.inRound l (callsIn_wide.2 (fmt_any c (by omega) W hT'))).mono ?_
          rintro e W1 ⟨rfl, hf⟩
          have hbx1 : Boxed W1 w1.heap.size 74 v := (hf.block _ hbx.lt).trans hbx
          have hbN1 : Boxed W1 (w1.heap.size + 1) 40 (.slice Ac j cc) := (hf.block _ hbN.lt).trans hbN
          have hrw1 := below_own hrw hf (Nat.le_refl _)
          have hlW := Nat.le_trans hB2.size (Nat.le_refl _)
          clear hbx0 hbf0 hbx hrw
          have hbx0 := hbx1.cell
          have hbf0 := hbx1.frozen
          have hd : 1 ≤ 5 - 1 - 1 := by omega
          have hmx : Tryd.prog.follows .mixedOrders = true := by kernel_rfl
          have hm := decL_le 19 c (by omega) hcl
          have hm1 := decL_pos c
          have hsub : IntKind.i64.wrap (19 - ((decL c).length : Int)) = ((19 - (decL c).length : Nat) : Int) := by rw [IntWalk.i64_in _ (by omega)]; omega
          have hlw : wr.heap.size ≤ W1.heap.size := Nat.le_trans hB2.size hf.size
          have hds := dec_size c
          have hpl := txt_len 0 pre hNb
          have htp := txt_pos 0 pre
          have hpre : pre.length ≤ 22 := by have := Hj.out.1; omega
          gi_wp2_with fail
          refine wpIn_region_any (by assumption) ?_
          change wpAnyIn _ _ _ _ _ _ _ _ _ (World.drew _)
          refine wpAnyIn_ready (rs := [0, 1]) (by kernel_rfl) (by simp) ?_
          refine AllReadyIn.cons rfl (fun K hK => ?_) ?_
          · go_simp
            refine hK _ _ ?_
            clear hK K
            refine wpAnyIn_ready (rs := [1]) (by kernel_rfl) (by simp) ?_
            refine AllReadyIn.cons rfl (fun K hK => ?_) AllReadyIn.nil
            go_simp
            refine hK _ _ ?_
            clear hK K
            refine wpAnyIn_ready (rs := [2]) (by kernel_rfl) (by simp) ?_
            refine AllReadyIn.cons rfl (fun K hK => ?_) AllReadyIn.nil
            go_simp
            refine hK _ _ ?_
            clear hK K
            refine wpAnyIn_ready (rs := [3]) (by kernel_rfl) (by simp) ?_
            refine AllReadyIn.cons rfl (fun K hK => ?_) AllReadyIn.nil
            go_simp
            refine hK _ _ ?_
            clear hK K
            refine wpAnyIn_ready (rs := [4]) (by kernel_rfl) (by simp) ?_
            refine AllReadyIn.cons rfl (fun K hK => ?_) AllReadyIn.nil
            go_simp
            gi_wp2_with (refine ⟨trivial, ?_⟩; gi_at_call 44; refine (CallsIn.inRound l (callsIn_wide.2 (zeros_any (19 - (decL c).length) (by omega) _))).mono ?_; rintro e W2 ⟨rfl, hz⟩; replace hz := below_of_drew hz; have hbx2 : Boxed W2 w1.heap.size 74 v := (hz.block _ hbx1.lt).trans hbx1; have hbN2 : Boxed W2 (w1.heap.size + 1) 40 (.slice Ac j cc) := (hz.block _ hbN1.lt).trans hbN1; have hrw2 := below_own hrw1 hz (Nat.le_refl _); have hbx3 := hbx2.cell; have hbf3 := hbx2.frozen; have hlw2 : wr.heap.size ≤ W2.heap.size := Nat.le_trans hlw hz.size)
            refine wpAnyIn_ready (rs := [5]) (by kernel_rfl) (by simp) ?_
            refine AllReadyIn.cons rfl (fun K hK => ready_append_str rfl _ _ 74 9 rfl wr.heap.size 5 i8 Tryd.underlying74 Tryd.underlying9 hi8 hz8 hs8 hb8 _ _ _ rfl hrw2 _ rfl (by unfold maxLen; rw [rep_size]; omega) (by rw [rep_size]; omega) hlw2 ?_) AllReadyIn.nil
            intro v3 W3 hown3 hg3
            rw [rep_size] at hown3
            obtain ⟨g3, cap3, rfl, _, _⟩ := own_form hown3 (by omega)
            have hN3 : Boxed W3 (w1.heap.size + 1) 40 (.slice Ac j cc) := hbN2.kept hg3 (hbN2.not_row (by decide) hrw2)
            obtain ⟨hk1, hk2, hk3, hk4, hk5⟩ := boxed_appended hbx2 (by decide) hrw2 hlw2 (by omega) hown3 hg3
            have hbx4 := hk1.cell
            have hbf4 := hk1.frozen
            refine hK _ _ ?_
            clear hK K
            refine wpAnyIn_ready (rs := [6]) (by kernel_rfl) (by simp) ?_
            refine AllReadyIn.cons rfl (fun K hK => ?_) AllReadyIn.nil
            go_simp
            refine hK _ _ ?_
            clear hK K
            refine wpAnyIn_done (by kernel_rfl) ?_ _
            have hN4 := hN3.other (by omega : w1.heap.size + 1 ≠ w1.heap.size) (.slice (some ⟨g3, 0, none⟩) ((txt 0 pre).length + (19 - (decL c).length)) cap3)
            have hlw4 := Nat.le_trans hlw2 hk4.size
            have hbx5 := hk2.cell
            have hbf5 := hk2.frozen
            clear hbx4 hbf4 hbx3 hbf3
            gi_wp2_with (gi_at_builtin; refine wpListIn_append_str _ rfl _ _ 74 9 rfl wr.heap.size 5 i8 Tryd.underlying74 Tryd.underlying9 hi8 hz8 hs8 hb8 _ _ _ rfl hk3 _ rfl (by unfold maxLen; rw [hds]; omega) (by rw [hds]; omega) hlw4 ?_; intro v5 W5 hown5 hg5; rw [hds] at hown5; obtain ⟨g5, cap5, rfl, _, _⟩ := own_form hown5 (by omega); obtain ⟨m1, m2, m3, m4, m5⟩ := boxed_appended hk2 (by decide) hk3 hlw4 (by omega) hown5 hg5; have hN6 := (hN4.kept hg5 (hN4.not_row (by decide) hk3)).other (by omega : w1.heap.size + 1 ≠ w1.heap.size) (.slice (some ⟨g5, 0, none⟩) ((txt 0 pre).length + (19 - (decL c).length) + (decL c).length) cap5); have hbx6 := m1.cell; have hbf6 := m1.frozen)
            exact body_end hcl hlW hB2 hf hz hk4 hk5 m4 m5 m2 m3 (txt_grow 0 pre xi c hcl) hbN hN6
          · refine AllReadyIn.cons rfl (fun K hK => ?_) AllReadyIn.nil
            go_simp
            refine hK _ _ ?_
            clear hK K
            refine wpAnyIn_ready (rs := [0, 2]) (by kernel_rfl) (by simp) ?_
            refine AllReadyIn.cons rfl (fun K hK => ?_) ?_
            · go_simp
              refine hK _ _ ?_
              clear hK K
              refine wpAnyIn_ready (rs := [2]) (by kernel_rfl) (by simp) ?_
              refine AllReadyIn.cons rfl (fun K hK => ?_) AllReadyIn.nil
              go_simp
              refine hK _ _ ?_
              clear hK K
              refine wpAnyIn_ready (rs := [3]) (by kernel_rfl) (by simp) ?_
              refine AllReadyIn.cons rfl (fun K hK => ?_) AllReadyIn.nil
              go_simp
              refine hK _ _ ?_
              clear hK K
              refine wpAnyIn_ready (rs := [4]) (by kernel_rfl) (by simp) ?_
              refine AllReadyIn.cons rfl (fun K hK => ?_) AllReadyIn.nil
              go_simp
              gi_wp2_with (refine ⟨trivial, ?_⟩; gi_at_call 44; refine (CallsIn.inRound l (callsIn_wide.2 (zeros_any (19 - (decL c).length) (by omega) _))).mono ?_; rintro e W2 ⟨rfl, hz⟩; replace hz := below_of_drew hz; have hbx2 : Boxed W2 w1.heap.size 74 v := (hz.block _ hbx1.lt).trans hbx1; have hbN2 : Boxed W2 (w1.heap.size + 1) 40 (.slice Ac j cc) := (hz.block _ hbN1.lt).trans hbN1; have hrw2 := below_own hrw1 hz (Nat.le_refl _); have hbx3 := hbx2.cell; have hbf3 := hbx2.frozen; have hlw2 : wr.heap.size ≤ W2.heap.size := Nat.le_trans hlw hz.size)
              refine wpAnyIn_ready (rs := [5]) (by kernel_rfl) (by simp) ?_
              refine AllReadyIn.cons rfl (fun K hK => ready_append_str rfl _ _ 74 9 rfl wr.heap.size 5 i8 Tryd.underlying74 Tryd.underlying9 hi8 hz8 hs8 hb8 _ _ _ rfl hrw2 _ rfl (by unfold maxLen; rw [rep_size]; omega) (by rw [rep_size]; omega) hlw2 ?_) AllReadyIn.nil
              intro v3 W3 hown3 hg3
              rw [rep_size] at hown3
              obtain ⟨g3, cap3, rfl, _, _⟩ := own_form hown3 (by omega)
              have hN3 : Boxed W3 (w1.heap.size + 1) 40 (.slice Ac j cc) := hbN2.kept hg3 (hbN2.not_row (by decide) hrw2)
              obtain ⟨hk1, hk2, hk3, hk4, hk5⟩ := boxed_appended hbx2 (by decide) hrw2 hlw2 (by omega) hown3 hg3
              have hbx4 := hk1.cell
              have hbf4 := hk1.frozen
              refine hK _ _ ?_
              clear hK K
              refine wpAnyIn_ready (rs := [6]) (by kernel_rfl) (by simp) ?_
              refine AllReadyIn.cons rfl (fun K hK => ?_) AllReadyIn.nil
              go_simp
              refine hK _ _ ?_
              clear hK K
              refine wpAnyIn_done (by kernel_rfl) ?_ _
              have hN4 := hN3.other (by omega : w1.heap.size + 1 ≠ w1.heap.size) (.slice (some ⟨g3, 0, none⟩) ((txt 0 pre).length + (19 - (decL c).length)) cap3)
              have hlw4 := Nat.le_trans hlw2 hk4.size
              have hbx5 := hk2.cell
              have hbf5 := hk2.frozen
              clear hbx4 hbf4 hbx3 hbf3
              gi_wp2_with (gi_at_builtin; refine wpListIn_append_str _ rfl _ _ 74 9 rfl wr.heap.size 5 i8 Tryd.underlying74 Tryd.underlying9 hi8 hz8 hs8 hb8 _ _ _ rfl hk3 _ rfl (by unfold maxLen; rw [hds]; omega) (by rw [hds]; omega) hlw4 ?_; intro v5 W5 hown5 hg5; rw [hds] at hown5; obtain ⟨g5, cap5, rfl, _, _⟩ := own_form hown5 (by omega); obtain ⟨m1, m2, m3, m4, m5⟩ := boxed_appended hk2 (by decide) hk3 hlw4 (by omega) hown5 hg5; have hN6 := (hN4.kept hg5 (hN4.not_row (by decide) hk3)).other (by omega : w1.heap.size + 1 ≠ w1.heap.size) (.slice (some ⟨g5, 0, none⟩) ((txt 0 pre).length + (19 - (decL c).length) + (decL c).length) cap5); have hbx6 := m1.cell; have hbf6 := m1.frozen)
              exact body_end hcl hlW hB2 hf hz hk4 hk5 m4 m5 m2 m3 (txt_grow 0 pre xi c hcl) hbN hN6
            · refine AllReadyIn.cons rfl (fun K hK => ?_) AllReadyIn.nil
              go_simp
              refine hK _ _ ?_
              clear hK K
              refine wpAnyIn_ready (rs := [0, 3]) (by kernel_rfl) (by simp) ?_
              refine AllReadyIn.cons rfl (fun K hK => ?_) ?_
              · go_simp
                refine hK _ _ ?_
                clear hK K
                refine wpAnyIn_ready (rs := [3]) (by kernel_rfl) (by simp) ?_
                refine AllReadyIn.cons rfl (fun K hK => ?_) AllReadyIn.nil
                go_simp
                refine hK _ _ ?_
                clear hK K
                refine wpAnyIn_ready (rs := [4]) (by kernel_rfl) (by simp) ?_
                refine AllReadyIn.cons rfl (fun K hK => ?_) AllReadyIn.nil
                go_simp
                gi_wp2_with (refine ⟨trivial, ?_⟩; gi_at_call 44; refine (CallsIn.inRound l (callsIn_wide.2 (zeros_any (19 - (decL c).length) (by omega) _))).mono ?_; rintro e W2 ⟨rfl, hz⟩; replace hz := below_of_drew hz; have hbx2 : Boxed W2 w1.heap.size 74 v := (hz.block _ hbx1.lt).trans hbx1; have hbN2 : Boxed W2 (w1.heap.size + 1) 40 (.slice Ac j cc) := (hz.block _ hbN1.lt).trans hbN1; have hrw2 := below_own hrw1 hz (Nat.le_refl _); have hbx3 := hbx2.cell; have hbf3 := hbx2.frozen; have hlw2 : wr.heap.size ≤ W2.heap.size := Nat.le_trans hlw hz.size)
                refine wpAnyIn_ready (rs := [5]) (by kernel_rfl) (by simp) ?_
                refine AllReadyIn.cons rfl (fun K hK => ready_append_str rfl _ _ 74 9 rfl wr.heap.size 5 i8 Tryd.underlying74 Tryd.underlying9 hi8 hz8 hs8 hb8 _ _ _ rfl hrw2 _ rfl (by unfold maxLen; rw [rep_size]; omega) (by rw [rep_size]; omega) hlw2 ?_) AllReadyIn.nil
                intro v3 W3 hown3 hg3
                rw [rep_size] at hown3
                obtain ⟨g3, cap3, rfl, _, _⟩ := own_form hown3 (by omega)
                have hN3 : Boxed W3 (w1.heap.size + 1) 40 (.slice Ac j cc) := hbN2.kept hg3 (hbN2.not_row (by decide) hrw2)
                obtain ⟨hk1, hk2, hk3, hk4, hk5⟩ := boxed_appended hbx2 (by decide) hrw2 hlw2 (by omega) hown3 hg3
                have hbx4 := hk1.cell
                have hbf4 := hk1.frozen
                refine hK _ _ ?_
                clear hK K
                refine wpAnyIn_ready (rs := [6]) (by kernel_rfl) (by simp) ?_
                refine AllReadyIn.cons rfl (fun K hK => ?_) AllReadyIn.nil
                go_simp
                refine hK _ _ ?_
                clear hK K
                refine wpAnyIn_done (by kernel_rfl) ?_ _
                have hN4 := hN3.other (by omega : w1.heap.size + 1 ≠ w1.heap.size) (.slice (some ⟨g3, 0, none⟩) ((txt 0 pre).length + (19 - (decL c).length)) cap3)
                have hlw4 := Nat.le_trans hlw2 hk4.size
                have hbx5 := hk2.cell
                have hbf5 := hk2.frozen
                clear hbx4 hbf4 hbx3 hbf3
                gi_wp2_with (gi_at_builtin; refine wpListIn_append_str _ rfl _ _ 74 9 rfl wr.heap.size 5 i8 Tryd.underlying74 Tryd.underlying9 hi8 hz8 hs8 hb8 _ _ _ rfl hk3 _ rfl (by unfold maxLen; rw [hds]; omega) (by rw [hds]; omega) hlw4 ?_; intro v5 W5 hown5 hg5; rw [hds] at hown5; obtain ⟨g5, cap5, rfl, _, _⟩ := own_form hown5 (by omega); obtain ⟨m1, m2, m3, m4, m5⟩ := boxed_appended hk2 (by decide) hk3 hlw4 (by omega) hown5 hg5; have hN6 := (hN4.kept hg5 (hN4.not_row (by decide) hk3)).other (by omega : w1.heap.size + 1 ≠ w1.heap.size) (.slice (some ⟨g5, 0, none⟩) ((txt 0 pre).length + (19 - (decL c).length) + (decL c).length) cap5); have hbx6 := m1.cell; have hbf6 := m1.frozen)
                exact body_end hcl hlW hB2 hf hz hk4 hk5 m4 m5 m2 m3 (txt_grow 0 pre xi c hcl) hbN hN6
              · refine AllReadyIn.cons rfl (fun K hK => ?_) AllReadyIn.nil
                go_simp
                refine hK _ _ ?_
                clear hK K
                refine wpAnyIn_ready (rs := [0, 4]) (by kernel_rfl) (by simp) ?_
                refine AllReadyIn.cons rfl (fun K hK => ?_) ?_
                · go_simp
                  refine hK _ _ ?_
                  clear hK K
                  refine wpAnyIn_ready (rs := [4]) (by kernel_rfl) (by simp) ?_
                  refine AllReadyIn.cons rfl (fun K hK => ?_) AllReadyIn.nil
                  go_simp
                  gi_wp2_with (refine ⟨trivial, ?_⟩; gi_at_call 44; refine (CallsIn.inRound l (callsIn_wide.2 (zeros_any (19 - (decL c).length) (by omega) _))).mono ?_; rintro e W2 ⟨rfl, hz⟩; replace hz := below_of_drew hz; have hbx2 : Boxed W2 w1.heap.size 74 v := (hz.block _ hbx1.lt).trans hbx1; have hbN2 : Boxed W2 (w1.heap.size + 1) 40 (.slice Ac j cc) := (hz.block _ hbN1.lt).trans hbN1; have hrw2 := below_own hrw1 hz (Nat.le_refl _); have hbx3 := hbx2.cell; have hbf3 := hbx2.frozen; have hlw2 : wr.heap.size ≤ W2.heap.size := Nat.le_trans hlw hz.size)
                  refine wpAnyIn_ready (rs := [5]) (by kernel_rfl) (by simp) ?_
                  refine AllReadyIn.cons rfl (fun K hK => ready_append_str rfl _ _ 74 9 rfl wr.heap.size 5 i8 Tryd.underlying74 Tryd.underlying9 hi8 hz8 hs8 hb8 _ _ _ rfl hrw2 _ rfl (by unfold maxLen; rw [rep_size]; omega) (by rw [rep_size]; omega) hlw2 ?_) AllReadyIn.nil
                  intro v3 W3 hown3 hg3
                  rw [rep_size] at hown3
                  obtain ⟨g3, cap3, rfl, _, _⟩ := own_form hown3 (by omega)
                  have hN3 : Boxed W3 (w1.heap.size + 1) 40 (.slice Ac j cc) := hbN2.kept hg3 (hbN2.not_row (by decide) hrw2)
                  obtain ⟨hk1, hk2, hk3, hk4, hk5⟩ := boxed_appended hbx2 (by decide) hrw2 hlw2 (by omega) hown3 hg3
                  have hbx4 := hk1.cell
                  have hbf4 := hk1.frozen
                  refine hK _ _ ?_
                  clear hK K
                  refine wpAnyIn_ready (rs := [6]) (by kernel_rfl) (by simp) ?_
                  refine AllReadyIn.cons rfl (fun K hK => ?_) AllReadyIn.nil
                  go_simp
                  refine hK _ _ ?_
                  clear hK K
                  refine wpAnyIn_done (by kernel_rfl) ?_ _
                  have hN4 := hN3.other (by omega : w1.heap.size + 1 ≠ w1.heap.size) (.slice (some ⟨g3, 0, none⟩) ((txt 0 pre).length + (19 - (decL c).length)) cap3)
                  have hlw4 := Nat.le_trans hlw2 hk4.size
                  have hbx5 := hk2.cell
                  have hbf5 := hk2.frozen
                  clear hbx4 hbf4 hbx3 hbf3
                  gi_wp2_with (gi_at_builtin; refine wpListIn_append_str _ rfl _ _ 74 9 rfl wr.heap.size 5 i8 Tryd.underlying74 Tryd.underlying9 hi8 hz8 hs8 hb8 _ _ _ rfl hk3 _ rfl (by unfold maxLen; rw [hds]; omega) (by rw [hds]; omega) hlw4 ?_; intro v5 W5 hown5 hg5; rw [hds] at hown5; obtain ⟨g5, cap5, rfl, _, _⟩ := own_form hown5 (by omega); obtain ⟨m1, m2, m3, m4, m5⟩ := boxed_appended hk2 (by decide) hk3 hlw4 (by omega) hown5 hg5; have hN6 := (hN4.kept hg5 (hN4.not_row (by decide) hk3)).other (by omega : w1.heap.size + 1 ≠ w1.heap.size) (.slice (some ⟨g5, 0, none⟩) ((txt 0 pre).length + (19 - (decL c).length) + (decL c).length) cap5); have hbx6 := m1.cell; have hbf6 := m1.frozen)
                  exact body_end hcl hlW hB2 hf hz hk4 hk5 m4 m5 m2 m3 (txt_grow 0 pre xi c hcl) hbN hN6
                · refine AllReadyIn.cons rfl (fun K hK => ?_) AllReadyIn.nil
                  go_simp
                  gi_wp2_with (refine ⟨trivial, ?_⟩; gi_at_call 44; refine (CallsIn.inRound l (callsIn_wide.2 (zeros_any (19 - (decL c).length) (by omega) _))).mono ?_; rintro e W2 ⟨rfl, hz⟩; replace hz := below_of_drew hz; have hbx2 : Boxed W2 w1.heap.size 74 v := (hz.block _ hbx1.lt).trans hbx1; have hbN2 : Boxed W2 (w1.heap.size + 1) 40 (.slice Ac j cc) := (hz.block _ hbN1.lt).trans hbN1; have hrw2 := below_own hrw1 hz (Nat.le_refl _); have hbx3 := hbx2.cell; have hbf3 := hbx2.frozen; have hlw2 : wr.heap.size ≤ W2.heap.size := Nat.le_trans hlw hz.size)
                  refine wpAnyIn_ready (rs := [0]) (by kernel_rfl) (by simp) ?_
                  refine AllReadyIn.cons rfl (fun K hK => ?_) AllReadyIn.nil
                  go_simp
                  refine hK _ _ ?_
                  clear hK K
                  refine wpAnyIn_ready (rs := [5]) (by kernel_rfl) (by simp) ?_
                  refine AllReadyIn.cons rfl (fun K hK => ready_append_str rfl _ _ 74 9 rfl wr.heap.size 5 i8 Tryd.underlying74 Tryd.underlying9 hi8 hz8 hs8 hb8 _ _ _ rfl hrw2 _ rfl (by unfold maxLen; rw [rep_size]; omega) (by rw [rep_size]; omega) hlw2 ?_) AllReadyIn.nil
                  intro v3 W3 hown3 hg3
                  rw [rep_size] at hown3
                  obtain ⟨g3, cap3, rfl, _, _⟩ := own_form hown3 (by omega)
                  have hN3 : Boxed W3 (w1.heap.size + 1) 40 (.slice Ac j cc) := hbN2.kept hg3 (hbN2.not_row (by decide) hrw2)
                  obtain ⟨hk1, hk2, hk3, hk4, hk5⟩ := boxed_appended hbx2 (by decide) hrw2 hlw2 (by omega) hown3 hg3
                  have hbx4 := hk1.cell
                  have hbf4 := hk1.frozen
                  refine hK _ _ ?_
                  clear hK K
                  refine wpAnyIn_ready (rs := [6]) (by kernel_rfl) (by simp) ?_
                  refine AllReadyIn.cons rfl (fun K hK => ?_) AllReadyIn.nil
                  go_simp
                  refine hK _ _ ?_
                  clear hK K
                  refine wpAnyIn_done (by kernel_rfl) ?_ _
                  have hN4 := hN3.other (by omega : w1.heap.size + 1 ≠ w1.heap.size) (.slice (some ⟨g3, 0, none⟩) ((txt 0 pre).length + (19 - (decL c).length)) cap3)
                  have hlw4 := Nat.le_trans hlw2 hk4.size
                  have hbx5 := hk2.cell
                  have hbf5 := hk2.frozen
                  clear hbx4 hbf4 hbx3 hbf3
                  gi_wp2_with (gi_at_builtin; refine wpListIn_append_str _ rfl _ _ 74 9 rfl wr.heap.size 5 i8 Tryd.underlying74 Tryd.underlying9 hi8 hz8 hs8 hb8 _ _ _ rfl hk3 _ rfl (by unfold maxLen; rw [hds]; omega) (by rw [hds]; omega) hlw4 ?_; intro v5 W5 hown5 hg5; rw [hds] at hown5; obtain ⟨g5, cap5, rfl, _, _⟩ := own_form hown5 (by omega); obtain ⟨m1, m2, m3, m4, m5⟩ := boxed_appended hk2 (by decide) hk3 hlw4 (by omega) hown5 hg5; have hN6 := (hN4.kept hg5 (hN4.not_row (by decide) hk3)).other (by omega : w1.heap.size + 1 ≠ w1.heap.size) (.slice (some ⟨g5, 0, none⟩) ((txt 0 pre).length + (19 - (decL c).length) + (decL c).length) cap5); have hbx6 := m1.cell; have hbf6 := m1.frozen)
                  exact body_end hcl hlW hB2 hf hz hk4 hk5 m4 m5 m2 m3 (txt_grow 0 pre xi c hcl) hbN hN6
        case done0 =>
          rintro D ys W hD rfl ⟨⟨⟨v, hbx, hrw, -⟩, hbN⟩, hB2⟩ hK
          have hfin : txt 0 (downto (chAt (chk n) (chk_lt n)) j j) = decL n := by rw [txt, flat_eq]; exact Hj.out.2
          rw [hfin] at hrw
          obtain ⟨g4, cap4, rfl, hg41, hg42⟩ := own_form hrw (decL_pos n)
          have hcs : ∀ i (hi : i < (decL n).length), W.cell? ((⟨g4, 0, none⟩ : Addr).add i) = some (.int .u8 ((decL n)[i].toNat : Int)) := by
            intro i hi
            refine hrw.cells (g := g4) rfl i _ ?_
            rw [Lib.byteCells, List.getElem?_map, List.getElem?_eq_getElem hi]
            rfl
          have hcv := run_convert_bytes_back (P := Tryd.prog) W 74 9 5 ⟨g4, 0, none⟩ cap4 (decL n) Tryd.underlying74 Tryd.underlying5 Tryd.underlying9 hcs
          have hbx0 := hbx.cell
          have HBB := Lib.hid (HB.out.trans (hB2.mono hs1))
          clear hcs hrw hfin
          gi_wp2
          refine ⟨by simp, .inl ⟨_, _, rfl, run_takeDeferred hK, ?_⟩⟩
          exact ⟨_, results_tmp rfl _ _ _, rfl, HBB.out.trans (belowK_b (w := w) (Nat.le_refl _) W D _ _ (by simp at hD; omega) hK rfl rfl)⟩
        case stop0 =>
          rintro D c pre W _ _ h _
          exact h.elim

/-- The numeral of every number below 10^418. -/
theorem decOf_all (n : Nat) (hn : n < 10000000000000000000 ^ 22) : DecOf TabP n := fun v W hP hv => callsIn_wide.1 (decG_in n v W hv hn hP)

theorem decOf_seven (n : Nat) (hn : ln WB n ≤ 7) : DecOf TabP n := decOf_all n (by
  have h := lt_pow_ln WB n WB_two
  refine Nat.lt_of_lt_of_le h (Nat.le_trans (Nat.pow_le_pow_right (by unfold WB; omega) hn) ?_)
  unfold WB; decide)

end Go.Proofs.YtbcckgofoknmbaaDoor
