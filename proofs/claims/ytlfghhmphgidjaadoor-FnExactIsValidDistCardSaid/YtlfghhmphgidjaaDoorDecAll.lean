/-
  The program's decimal numeral of any number of at most twenty words.
-/
import Derived.Test.YtlfghhmphgidjaaDoorPDec
import Derived.Test.YtlfghhmphgidjaaDoorM2
import Derived.Shelf.RegionOpen
namespace Go.Proofs.YtlfghhmphgidjaaDoor
open Go.RowKit Num Go.Shelf

attribute [local go_sem] Oper.semAt_some

/-- Chunk i of n: nineteen digits. -/
def chk (n i : Nat) : Nat := n / (10000000000000000000 ^ i) % 10000000000000000000
theorem chk_lt (n : Nat) (i : Nat) : chk n i < 10000000000000000000 := Nat.mod_lt _ (by omega)
/-- The text of the chunks below j, the last one first. -/
def flat (n : Nat) : Nat → List UInt8
  | 0 => []
  | j + 1 => padL 19 (chk n j) ++ flat n j
def padC (x : Ch) : List UInt8 := padL 19 x.1.2

theorem flat_len (n j : Nat) : (flat n j).length = 19 * j := by
  induction j with
  | zero => rfl
  | succ j ih => rw [flat, List.length_append, padL_len, ih]; omega

theorem flat_eq (n j : Nat) : (downto (chAt (chk n) (chk_lt n)) j j).flatMap padC = flat n j := by
  induction j with
  | zero => rfl
  | succ j ih =>
    have h : downto (chAt (chk n) (chk_lt n)) (j + 1) (j + 1) = chAt (chk n) (chk_lt n) j :: downto (chAt (chk n) (chk_lt n)) j j := by
      simp only [downto, List.range_succ_eq_map, List.map_cons, List.map_map]
      congr 1
      apply List.map_congr_left
      intro i hi
      simp only [Function.comp]
      congr 1
      omega
    rw [h, List.flatMap_cons, ih, flat]
    rfl

theorem flat_step (n j : Nat) (h : 10000000000000000000 ≤ n / 10000000000000000000 ^ j) (hT : decL (n / 10000000000000000000 ^ j) ++ flat n j = decL n) :
    decL (n / 10000000000000000000 ^ (j + 1)) ++ flat n (j + 1) = decL n := by
  have e1 : n / 10000000000000000000 ^ (j + 1) = n / 10000000000000000000 ^ j / 10000000000000000000 := by rw [Nat.pow_succ, Nat.div_div_eq_div_mul]
  have hp := decL_padL 19 (n / 10000000000000000000 ^ j / 10000000000000000000) (chk n j) (by omega) (chk_lt n j)
  have e2 : 10 ^ 19 * (n / 10000000000000000000 ^ j / 10000000000000000000) + chk n j = n / 10000000000000000000 ^ j := by
    rw [chk]; exact Nat.div_add_mod _ _
  rw [e2] at hp
  rw [e1, flat, ← List.append_assoc, ← hp]
  exact hT

theorem chunk_bound (n j : Nat) (hn : n < 10000000000000000000 ^ 22) (h : 10000000000000000000 ≤ n / 10000000000000000000 ^ j) : j + 1 < 22 := by
  have h1 : 10000000000000000000 ^ (j + 1) ≤ n := by
    rw [Nat.pow_succ, Nat.mul_comm]
    exact (Nat.le_div_iff_mul_le (Nat.pow_pos (by omega))).1 h
  exact (Nat.pow_lt_pow_iff_right (by omega : 1 < 10000000000000000000)).1 (Nat.lt_of_le_of_lt h1 hn)

def slen : Value → Nat
  | .slice _ n _ => n
  | _ => 0

theorem row_len {w : World} {base : Nat} {e : TypeId} {v : Value} {n : Nat} {xs : List Value} (h : w.ownsRow base e 1 v n xs) : ∃ A cap, v = .slice A n cap := by
  rcases h.2 with ⟨rfl, h0⟩ | ⟨g, cap, cur, rfl, _⟩
  · exact ⟨none, 0, by rw [h0]⟩
  · exact ⟨_, cap, rfl⟩

/-- The cells of the chunks. -/
def chCells (n j : Nat) : List Value := (List.range j).map fun i => Value.int .u64 (chk n i : Nat)

theorem chIn_of_row {w : World} {base : Nat} {e : TypeId} {v : Value} {n j : Nat} (h : w.ownsRow base e 1 v j (chCells n j)) : ChIn w.heap.size w v j (chk n) := by
  rcases h.2 with ⟨rfl, h0⟩ | ⟨g, cap, cur, rfl, _, hg, _⟩
  · exact .inl ⟨rfl, h0⟩
  · refine .inr ⟨g, 0, cap, rfl, heap_lt hg, fun i hi => ?_⟩
    have := h.cells (g := g) rfl i (Value.int .u64 (chk n i : Nat)) (by rw [chCells, List.getElem?_map, List.getElem?_range hi]; rfl)
    rw [Lib.add_plain] at this
    exact this

theorem divBase (va : Value) (x : Nat) (w : World) (ha : Nums 76 .u64 WB w va x) (hlx : ln WB x ≤ 1099511627776) :
    Calls Tryd.prog 57 #[va, .int .u64 10000000000000000000] w fun e w' => (∃ v, e = .returned (.tuple #[v, .int .u64 (x % 10000000000000000000 : Nat)]) ∧ Nums 76 .u64 WB w' v (x / 10000000000000000000) ∧ v.ownBlock = some w.heap.size) ∧ Below w.heap.size w w' :=
  divWord_new va x 10000000000000000000 w ha (by omega) (by unfold WB; omega) hlx

theorem chCells_succ (n j : Nat) : chCells n (j + 1) = chCells n j ++ [.int .u64 (chk n j : Nat)] := by simp [chCells, List.range_succ]

/-- One word at least ten to the nineteenth. -/
theorem ln_big {N : Nat} (h : 10000000000000000000 ≤ N) : 1 ≤ ln WB N := lnz (b := WB) WB_two (by omega)
theorem dig_one {N : Nat} (h : ln WB N = 1) : (digs WB N).getD 0 0 = N := by
  show dg WB N 0 = N
  rw [dg_zero WB N WB_two]
  have h1 := lt_pow_ln WB N WB_two
  rw [h, Nat.pow_one] at h1
  exact Nat.mod_eq_of_lt h1

/-- The text when the chunks pre have come. -/
def txt (N : Nat) (pre : List Ch) : List UInt8 := decL N ++ pre.flatMap padC
theorem txt_nil (N : Nat) : txt N [] = decL N := by simp [txt]
theorem txt_snoc (N : Nat) (pre : List Ch) (x : Ch) : txt N (pre ++ [x]) = txt N pre ++ padC x := by simp [txt]

theorem keeps_of_below {X Y : World} (h : Below X.heap.size X Y) : KeepsOthers X Y := ⟨h.size, fun k _ hk _ => (h.block k (heap_lt hk)).trans hk⟩

theorem txt_len (N : Nat) (pre : List Ch) (h : N < 10000000000000000000) : (txt N pre).length ≤ 19 + 19 * pre.length := by
  have h1 := decL_le 19 N (by omega) h
  have h2 : (pre.flatMap padC).length = 19 * pre.length := by
    induction pre with
    | nil => rfl
    | cons x pre ih => rw [List.flatMap_cons, List.length_append, ih, padC, padL_len, List.length_cons]; omega
  rw [txt, List.length_append, h2]; omega

theorem txt_pos (N : Nat) (pre : List Ch) : 0 < (txt N pre).length := by
  rw [txt, List.length_append]; have := decL_pos N; omega

theorem Tryd.info_u8 : (Tryd.prog.info? 5).map (fun i => (i.zero, i.size, i.bytes)) = some (some (.int .u8 0), 1, 1) := by kernel_rfl

theorem ready_append_str {F : Fence} {n' : Nat} {P : Program} {w : World} {ops : Array Oper} {o : Oper} {a : Act} {K : Act → World → Prop} {Q : Exit → Act → World → Prop} (hgd : o.guard = none) (sl x : Operand) (t u : TypeId)
    (ho : o.op = .call { callee := .builtin .append, args := #[sl, x], argTypes := #[t, u] })
    (base : Nat) (e : TypeId) (i : TypeInfo) (ht : P.underlying t = some (.slice e)) (hu : P.underlying u = some .string) (hi : P.info? e = some i) (hz : i.zero = some (.int .u8 0))
    (hsize : i.size = 1) (hby : i.bytes = 1)
    (v : Value) (n : Nat) (xs : List Value) (hs : a.eval sl = v) (hown : w.ownsRow base e 1 v n xs) (s : ByteArray) (hx : a.eval x = .string s)
    (h63 : n + s.size ≤ maxLen) (hbytes : n + s.size ≤ 140737488355328) (hbase : base ≤ w.heap.size)
    (h : ∀ v' w', w'.ownsRow base e 1 v' (n + s.size) (xs ++ Lib.strCells s) → w.grownBy w' v.ownBlock → K (a.put o.dst v') w') :
    if Region.wanted o (yielded ops a.tmps) = true then Oper.wpIn F n' P o a w K Q else (∀ f, o.about P w a.eval = some f → F.fn f) ∧ K (a.put o.dst undef) w := by
  rw [if_pos (by simp [Region.wanted, hgd])]
  obtain ⟨v', w', hrun, r1, r2, r3⟩ := Lib.run_append_own_string (P := P) w base t u o.type e i ht hu hi hz hsize hby v n xs hown s h63 hbytes hbase
  unfold Oper.wpIn
  refine ⟨?_, ?_⟩
  · simp [Oper.about, ho, resolve, Target.leads, Sem.run_pure]
  · rw [Oper.semAt_plain F _ _ (by rw [ho]; intro c hc'; cases hc')]
    simp [execOp, ho, resolve, invoke, builtin, hs, hx, hrun, Result.andThen]
    exact h v' w' r1 r2

theorem rep_size (k : Nat) : (⟨Array.replicate k (48 : UInt8)⟩ : ByteArray).size = k := by simp [ByteArray.size]

theorem txt_grow (N : Nat) (pre : List Ch) (xi c : Nat) (hcl : c < 10000000000000000000) : (txt N pre).length + (19 - (decL c).length) + (decL c).length = (txt N (pre ++ [⟨(xi, c), hcl⟩])).length := by
  have h := decL_le 19 c (by omega) hcl
  rw [txt_snoc, List.length_append, padC, padL_len]; omega

theorem body_end {n₀ B0 Bt Bn n5 : Nat} {wr W W1 W2 W4 W6 : World} {T8 T64 e : TypeId} {N c xi : Nat} {pre : List Ch} {v5 vC : Value} (hcl : c < 10000000000000000000) (hn0 : n₀ ≤ W.heap.size) (hB2 : Below n₀ wr W) (hf : Below W.heap.size W W1) (hz : Below W1.heap.size W1 W2)
    (hk4 : KeepsOthers W2 W4) (hk5 : Below n₀ W2 W4) (m4 : KeepsOthers W4 W6) (m5 : Below n₀ W4 W6) (m2 : Boxed W6 Bt T8 v5)
    (m3 : W6.ownsRow n₀ e 1 v5 n5 ((Lib.byteCells (txt N pre) ++ Lib.strCells ⟨Array.replicate (19 - (decL c).length) 48⟩) ++ Lib.strCells (dec c)))
    (hn5 : n5 = (txt N (pre ++ [⟨(xi, c), hcl⟩])).length) (hbN : Boxed W Bn T64 vC) (hN6 : Boxed W6 Bn T64 vC) :
    KeepsFrom B0 W W6 ∧ Kept Bn n₀ W W6 ∧ ((∃ v, Boxed W6 Bt T8 v ∧ W6.ownsRow n₀ e 1 v (txt N (pre ++ [⟨(xi, c), hcl⟩])).length (Lib.byteCells (txt N (pre ++ [⟨(xi, c), hcl⟩]))) ∧ True) ∧ Boxed W6 Bn T64 vC) ∧ Below n₀ wr W6 := by
  have hbe : Below n₀ W W6 := ((hf.mono hn0).trans (hz.mono (Nat.le_trans hn0 hf.size))).trans (hk5.trans m5)
  have hko : KeepsOthers W W6 := ((keeps_of_below hf).trans (keeps_of_below hz)).trans (hk4.trans m4)
  refine ⟨hko.from _, ⟨hbe, fun v hv => ?_⟩, ⟨⟨v5, m2, ?_, trivial⟩, hN6⟩, hB2.trans hbe⟩
  · rw [hbN.cell] at hv; rw [hN6.cell]; exact hv
  · rw [← hn5]
    have e1 : Lib.byteCells (txt N (pre ++ [⟨(xi, c), hcl⟩])) = (Lib.byteCells (txt N pre) ++ Lib.strCells ⟨Array.replicate (19 - (decL c).length) 48⟩) ++ Lib.strCells (dec c) := by
      rw [txt_snoc, padC, padL_eq 19 c (by omega) hcl]
      simp [Lib.byteCells, Lib.strCells, dec]
    rw [e1]; exact m3

theorem row_lt {w : World} {base : Nat} {e : TypeId} {v : Value} {n : Nat} {xs : List Value} (h : w.ownsRow base e 1 v n xs) : ∀ g, v.ownBlock = some g → base ≤ g ∧ g < w.heap.size := by
  intro g hg
  rcases h.2 with ⟨rfl, _⟩ | ⟨g', cap, cur, rfl, hb, hgb, _⟩
  · simp [Value.ownBlock] at hg
  · obtain rfl : g' = g := by simpa [Value.ownBlock] using hg
    exact ⟨hb, heap_lt hgb⟩

theorem grown_nums {w w1 w2 : World} {o : Obj} {v c : Value} {x base : Nat} (hv : Nums 76 .u64 WB w1 v x) (ho : v.ownBlock = some w.heap.size) (hc : ∀ g, c.ownBlock = some g → base ≤ g ∧ g < w.heap.size) (hg : (w1.alloc o).grownBy w2 c.ownBlock) : Nums 76 .u64 WB w2 v x := by
  rcases hv with h | ⟨b, off, cap, rfl, h1, h2, ⟨cs, h3⟩, h4⟩
  · exact .inl h
  · have hb : b = w.heap.size := by simpa [Value.ownBlock] using ho
    have hlt : b < w1.heap.size := heap_lt h3
    have hne : some b ≠ c.ownBlock := fun e => by have := (hc b e.symm).2; omega
    have hk : w2.heap[b]? = w1.heap[b]? := (hg.block b (by simp; omega) hne).trans (Below.heap_alloc w1 o b hlt)
    refine .inr ⟨b, off, cap, rfl, h1, h2, ⟨cs, hk.trans h3⟩, fun j hj => ?_⟩
    have := h4 j hj
    simp only [World.cell?] at this ⊢
    rw [hk]; exact this

theorem below_grown2 {B : Nat} {w w1 w2 wr : World} {o : Obj} {c : Value} {e : TypeId} {n : Nat} {xs : List Value} (h : Below B w w1) (hg : (w1.alloc o).grownBy w2 c.ownBlock) (hr : wr.ownsRow B e 1 c n xs) (hB : B ≤ w1.heap.size) : Below B w w2 :=
  (h.alloc hB o).grown hg (by simp; omega) fun k hk => (row_lt hr k hk).1

end Go.Proofs.YtlfghhmphgidjaaDoor
