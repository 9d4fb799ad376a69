/-
  Several texts in one: DecS, FmtU, DecG.
-/
import Derived.Test.YtlfghhmphgidjaaDoorRatF
import Derived.Test.YtlfghhmphgidjaaDoorShelf
import Derived.RangeFuncNested
import Derived.RangeFuncWrites
import Derived.Laws.IdiomStrings
import Derived.RangeFuncBound
import Derived.RangeFuncCalls
import Derived.RangeFuncLeaves
import Derived.Shelf.Abstract
import Derived.OwnWalkIn
import Derived.TacticsInMore
import Derived.LoopNIn
import Derived.LoopIn
import Derived.BigFrameIn
import Derived.BigGuardPartIn
import Derived.Lib.ItoaWalk
import Derived.Lib.ItoaMem
import Derived.Lib.AppendIntMem
import Derived.Test.YtlfghhmphgidjaaDoorPDiv
import Derived.RangeFuncBox
import Derived.Lib.AppendStr
/-
  The program's decimal numeral of a number of at most one word below 10^19: no round of the chunks' loop, none of the range over them.
-/
namespace Go.Proofs.YtlfghhmphgidjaaDoor
open Go.RowKit Num Go.Shelf

attribute [local go_sem] Oper.semAt_some

/-- The table of powers of ten stands in its variable. -/
def TabP (W : World) : Prop := Lib.TabIs Tryd.prog W "internal/strconv.uint64pow10" .u64 Lib.pow10Tab

theorem decDigits_decL (u : Nat) : Lib.decDigits u = decL u := by
  induction u using Nat.strongRecOn with
  | ind u ih =>
    by_cases h : u < 10
    · rw [Lib.decDigits_one h, decL_small u h]
    · rw [Lib.decDigits, dif_neg h, ih (u / 10) (by omega), ← decL_step u (by omega)]

theorem own_form {w : World} {base : Nat} {e : TypeId} {v : Value} {n : Nat} {xs : List Value} (h : w.ownsRow base e 1 v n xs) (hn : 0 < n) : ∃ g cap, v = .slice (some ⟨g, 0, none⟩) n cap ∧ base ≤ g ∧ g < w.heap.size := by
  rcases h.2 with ⟨_, h0⟩ | ⟨g, cap, cur, rfl, h1, h2, _⟩
  · omega
  · exact ⟨g, cap, rfl, h1, heap_lt h2⟩

theorem decL_pos (n : Nat) : 0 < (decL n).length := by
  unfold decL
  split
  · simp
  · rw [List.length_map, List.length_reverse, length_digs]
    exact lnz (by omega) (by omega)

end Go.Proofs.YtlfghhmphgidjaaDoor
/-
  strconv.FormatUint at base 10; a text padded with zeros to a fixed number of digits.
-/
namespace Go.Proofs.YtlfghhmphgidjaaDoor
open Go.RowKit Num Go.Shelf

/-- The k last digits of d. -/
def padL : Nat → Nat → List UInt8
  | 0, _ => []
  | k + 1, d => padL k (d / 10) ++ [UInt8.ofNat (48 + d % 10)]

theorem padL_len (k d : Nat) : (padL k d).length = k := by
  induction k generalizing d with
  | zero => rfl
  | succ k ih => simp [padL, ih]

theorem padL_zero (k : Nat) : padL k 0 = List.replicate k 48 := by
  induction k with
  | zero => rfl
  | succ k ih => rw [padL, Nat.zero_div, ih, List.replicate_succ']; rfl

theorem decL_padL (k q d : Nat) (hq : 0 < q) (hd : d < 10 ^ k) : decL (10 ^ k * q + d) = decL q ++ padL k d := by
  induction k generalizing d with
  | zero =>
    obtain rfl : d = 0 := by simpa using hd
    simp [padL]
  | succ k ih =>
    have h1 : 0 < 10 ^ k := Nat.pow_pos (by omega)
    have h2 : 10 ^ (k + 1) * q + d = 10 * (10 ^ k * q) + d := by rw [Nat.pow_succ, Nat.mul_comm (10 ^ k) 10, Nat.mul_assoc]
    have h3 : 1 ≤ 10 ^ k * q := Nat.mul_pos h1 hq
    have h4 : d < 10 * 10 ^ k := by rw [Nat.mul_comm]; exact hd
    rw [h2, decL_step _ (by omega), show (10 * (10 ^ k * q) + d) / 10 = 10 ^ k * q + d / 10 by omega, show (10 * (10 ^ k * q) + d) % 10 = d % 10 by omega, ih (d / 10) (by omega), padL, List.append_assoc]

theorem decL_le (k d : Nat) (hk : 0 < k) (hd : d < 10 ^ k) : (decL d).length ≤ k := by
  induction k generalizing d with
  | zero => omega
  | succ k ih =>
    by_cases h : d < 10
    · rw [decL_small d h]; simp
    · rw [decL_step d (by omega), List.length_append]
      have h4 : d < 10 * 10 ^ k := by rw [Nat.mul_comm]; exact hd
      rcases Nat.eq_zero_or_pos k with rfl | hk0
      · simp at h4; omega
      · have := ih (d / 10) hk0 (by omega)
        simp; omega

theorem padL_eq (k d : Nat) (hk : 0 < k) (hd : d < 10 ^ k) : padL k d = List.replicate (k - (decL d).length) 48 ++ decL d := by
  induction k generalizing d with
  | zero => omega
  | succ k ih =>
    have h4 : d < 10 * 10 ^ k := by rw [Nat.mul_comm]; exact hd
    by_cases h : d < 10
    · rw [padL, show d / 10 = 0 by omega, padL_zero, decL_small d h, show d % 10 = d by omega]
      simp
    · have hk0 : 0 < k := by
        rcases Nat.eq_zero_or_pos k with h0 | h0
        · subst h0; simp at h4; omega
        · exact h0
      have hl := decL_le k (d / 10) hk0 (by omega)
      rw [padL, ih (d / 10) hk0 (by omega), decL_step d (by omega), List.length_append, List.append_assoc]
      simp only [List.length_cons, List.length_nil]
      rw [show k + 1 - ((decL (d / 10)).length + (0 + 1)) = k - (decL (d / 10)).length by omega]

theorem repeat_zeros (c : Nat) : Lib.repeatL [48] c = List.replicate c (48 : UInt8) := by
  induction c with
  | zero => rfl
  | succ c ih => rw [Lib.repeatL, ih]; rfl

end Go.Proofs.YtlfghhmphgidjaaDoor
/-
  The program's decimal numeral of any number: the chunks' loop, the range over them from the last to the first.
-/
namespace Go.Proofs.YtlfghhmphgidjaaDoor
open Go.RowKit Num Go.Shelf

attribute [local go_sem] Oper.semAt_some

/-- What has come when k rounds from the last to the first are over. -/
def downto {α : Type} (f : Nat → α) (len k : Nat) : List α := (List.range k).map fun i => f (len - 1 - i)
theorem downto_succ {α : Type} (f : Nat → α) (len k : Nat) : downto f len (k + 1) = downto f len k ++ [f (len - 1 - k)] := by simp [downto, List.range_succ]
theorem downto_length {α : Type} (f : Nat → α) (len k : Nat) : (downto f len k).length = k := by simp [downto]

/-- What the range hands over: an index, and a number of at most nineteen digits. -/
abbrev Ch := { x : Nat × Nat // x.2 < 10000000000000000000 }
def encCh (x : Ch) : Array Value := #[Value.int .i64 (x.1.1 : Int), Value.int .u64 (x.1.2 : Int)]
def chAt (d : Nat → Nat) (hd : ∀ j, d j < 10000000000000000000) (j : Nat) : Ch := ⟨(j, d j), hd j⟩

/-- What a round keeps: all below n₀, and the box Bs. -/
def Kept (Bs n₀ : Nat) (W W' : World) : Prop := Below n₀ W W' ∧ ∀ v, W.cell? ⟨Bs, 0, none⟩ = some v → W'.cell? ⟨Bs, 0, none⟩ = some v
theorem Kept.trans {Bs n₀ : Nat} {A B C : World} (h : Kept Bs n₀ A B) (k : Kept Bs n₀ B C) : Kept Bs n₀ A C := ⟨h.1.trans k.1, fun v e => k.2 v (h.2 v e)⟩
theorem Kept.refl (Bs n₀ : Nat) (W : World) : Kept Bs n₀ W W := ⟨Below.refl _ _, fun _ e => e⟩
theorem Kept.put {Bs n₀ : Nat} {w : World} (h : n₀ ≤ w.heap.size) (hB : Bs < w.heap.size) (W : World) (l : Nat) (o o' : Obj) (hl : w.heap.size ≤ l) (ho : W.heap[l]? = some o) (hc : o.isCells = false) (hk : o.isWalk = false) : Kept Bs n₀ W (W.putObj l o') :=
  ⟨belowK_b (w := w) h W l o o' hl ho hc hk, fun v e => by
    have h1 := belowK_b (w := w) (Nat.le_refl _) W l o o' hl ho hc hk
    exact (h1.cell (p := ⟨Bs, 0, none⟩) hB).trans e⟩

/-- The slice value v holds the numbers d 0, .., in a block below n₀. -/
def ChIn (n₀ : Nat) (W : World) (v : Value) (len : Nat) (d : Nat → Nat) : Prop :=
  (v = .slice none 0 0 ∧ len = 0) ∨ ∃ b off cap, v = .slice (some ⟨b, off, none⟩) len cap ∧ b < n₀ ∧ ∀ j, j < len → W.cell? ⟨b, off + j, none⟩ = some (.int .u64 (d j : Nat))
theorem ChIn.below {n₀ : Nat} {A B : World} (h : Below n₀ A B) {v : Value} {len : Nat} {d : Nat → Nat} : ChIn n₀ A v len d → ChIn n₀ B v len d
  | .inl e => .inl e
  | .inr ⟨b, off, cap, e, hb, hc⟩ => .inr ⟨b, off, cap, e, hb, fun j hj => (h.cell (p := ⟨b, off + j, none⟩) hb).trans (hc j hj)⟩

theorem wpListIn_append_str {F : Fence} {n' : Nat} {P : Program} (w : World) {ops : Array Oper} {rest : List Oper} {o : Oper} {a : Act} {Q : Exit → Act → World → Prop} (hgd : o.guard = none) (sl x : Operand) (t u : TypeId)
    (ho : o.op = .call { callee := .builtin .append, args := #[sl, x], argTypes := #[t, u] })
    (base : Nat) (e : TypeId) (i : TypeInfo) (ht : P.underlying t = some (.slice e)) (hu : P.underlying u = some .string) (hi : P.info? e = some i) (hz : i.zero = some (.int .u8 0))
    (hsize : i.size = 1) (hby : i.bytes = 1)
    (v : Value) (n : Nat) (xs : List Value) (hs : a.eval sl = v) (hown : w.ownsRow base e 1 v n xs) (s : ByteArray) (hx : a.eval x = .string s)
    (h63 : n + s.size ≤ maxLen) (hbytes : n + s.size ≤ 140737488355328) (hbase : base ≤ w.heap.size)
    (h : ∀ v' w', w'.ownsRow base e 1 v' (n + s.size) (xs ++ Lib.strCells s) → w.grownBy w' v.ownBlock → wpListIn F n' P ops Q rest (a.put o.dst v') w') : wpListIn F n' P ops Q (o :: rest) a w := by
  refine wpListIn_plain hgd fun K hK' => ?_
  obtain ⟨v', w', hrun, r1, r2, r3⟩ := Lib.run_append_own_string (P := P) w base t u o.type e i ht hu hi hz hsize hby v n xs hown s h63 hbytes hbase
  unfold Oper.wpIn
  refine ⟨?_, ?_⟩
  · simp [Oper.about, ho, resolve, Target.leads, Sem.run_pure]
  · rw [Oper.semAt_plain F _ _ (by rw [ho]; intro c hc'; cases hc')]
    simp [execOp, ho, resolve, invoke, builtin, hs, hx, hrun, Result.andThen]
    exact hK' _ _ (h v' w' r1 r2)

theorem boxed_appended {W w1 : World} {n₀ B : Nat} {t e : TypeId} {size : Nat} {v v' : Value} {k m : Nat} {xs ys : List Value}
    (hv : Boxed W B t v) (hte : t ≠ e) (hrow : W.ownsRow n₀ e size v k xs) (hn₀ : n₀ ≤ W.heap.size) (hB : n₀ ≤ B)
    (hown' : w1.ownsRow n₀ e size v' m ys) (hgrow : W.grownBy w1 v.ownBlock) :
    Boxed w1 B t v ∧ Boxed (w1.setCell ⟨B, 0, none⟩ v') B t v' ∧ (w1.setCell ⟨B, 0, none⟩ v').ownsRow n₀ e size v' m ys ∧ KeepsOthers W (w1.setCell ⟨B, 0, none⟩ v') ∧ Below n₀ W (w1.setCell ⟨B, 0, none⟩ v') := by
  have hv1 : Boxed w1 B t v := hv.kept hgrow (hv.not_row hte hrow)
  refine ⟨hv1, hv1.set v', hown'.kept (grownBy_setCell' w1 B v') (.inr (hv1.not_row hte hown').symm), ?_, ?_⟩
  · refine (KeepsOthers.of_grownBy hgrow fun j o ej hj => ?_).trans (KeepsOthers.setCell _ _ _)
    rcases hrow.2 with ⟨rfl, _⟩ | ⟨g, cap, cur, rfl, _, hgb, _⟩
    · simp [Value.ownBlock] at ej
    · obtain rfl : g = j := by simpa [Value.ownBlock] using ej
      rw [hgb] at hj; cases hj; rfl
  · refine ((Below.refl n₀ W).grown hgrow hn₀ fun j ej => ?_).setCell (p := ⟨B, 0, none⟩) hB v'
    rcases hrow.2 with ⟨rfl, _⟩ | ⟨g, cap, cur, rfl, hb, _, _⟩
    · simp [Value.ownBlock] at ej
    · obtain rfl : g = j := by simpa [Value.ownBlock] using ej
      exact hb

end Go.Proofs.YtlfghhmphgidjaaDoor
