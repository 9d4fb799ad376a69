/-
  Several texts in one: Block, BlkEq, Natural, Numerals, ReadW, FromText.
-/
import Derived.Test.YtbcckgofoknmbaaDoorPMul
import Derived.Test.YtbcckgofoknmbaaDoorPureM
import Derived.DeepKeys
import Derived.Test.YtbcckgofoknmbaaDoorGcdN
import Derived.Test.YtbcckgofoknmbaaDoorM1
import Derived.WalkSpells
import Derived.Lib.IndexBytes
import Derived.Deep.DeepCutAuto
/-
  The program's blocks of seven words: scaled by a word and added to.
-/
namespace Go.Proofs.YtbcckgofoknmbaaDoor
open Go.RowKit Num

section
variable {w : World} {G : Nat} {t : TypeId} {a b c d e f g : Value}
theorem Box.seven (h : Box w G t #[a, b, c, d, e, f, g]) : w.cell? ⟨G, 0, none⟩ = some a ∧ w.cell? ⟨G, 1, none⟩ = some b ∧ w.cell? ⟨G, 2, none⟩ = some c ∧ w.cell? ⟨G, 3, none⟩ = some d ∧ w.cell? ⟨G, 4, none⟩ = some e ∧ w.cell? ⟨G, 5, none⟩ = some f ∧ w.cell? ⟨G, 6, none⟩ = some g :=
  ⟨h.cell 0, h.cell 1, h.cell 2, h.cell 3, h.cell 4, h.cell 5, h.cell 6⟩
theorem Box.at0 (h : Box w G t #[a, b, c, d, e, f, g]) (u : Value) : Box (w.setCell ⟨G, 0, none⟩ u) G t #[u, b, c, d, e, f, g] := h.set 0 u
theorem Box.at1 (h : Box w G t #[a, b, c, d, e, f, g]) (u : Value) : Box (w.setCell ⟨G, 1, none⟩ u) G t #[a, u, c, d, e, f, g] := h.set 1 u
theorem Box.at2 (h : Box w G t #[a, b, c, d, e, f, g]) (u : Value) : Box (w.setCell ⟨G, 2, none⟩ u) G t #[a, b, u, d, e, f, g] := h.set 2 u
theorem Box.at3 (h : Box w G t #[a, b, c, d, e, f, g]) (u : Value) : Box (w.setCell ⟨G, 3, none⟩ u) G t #[a, b, c, u, e, f, g] := h.set 3 u
theorem Box.at4 (h : Box w G t #[a, b, c, d, e, f, g]) (u : Value) : Box (w.setCell ⟨G, 4, none⟩ u) G t #[a, b, c, d, u, f, g] := h.set 4 u
theorem Box.at5 (h : Box w G t #[a, b, c, d, e, f, g]) (u : Value) : Box (w.setCell ⟨G, 5, none⟩ u) G t #[a, b, c, d, e, u, g] := h.set 5 u
theorem Box.at6 (h : Box w G t #[a, b, c, d, e, f, g]) (u : Value) : Box (w.setCell ⟨G, 6, none⟩ u) G t #[a, b, c, d, e, f, u] := h.set 6 u
theorem Box.put7 (h : Box w G t #[a, b, c, d, e, f, g]) (p q r s u v x : Value) :
    Box (((((((w.setCell ⟨G, 0, none⟩ p).setCell ⟨G, 1, none⟩ q).setCell ⟨G, 2, none⟩ r).setCell ⟨G, 3, none⟩ s).setCell ⟨G, 4, none⟩ u).setCell ⟨G, 5, none⟩ v).setCell ⟨G, 6, none⟩ x) G t #[p, q, r, s, u, v, x] :=
  (((((((h.at0 p).at1 q).at2 r).at3 s).at4 u).at5 v).at6 x)
theorem below_put7 {B : Nat} {w0 : World} (hb : Below B w0 w) (hg : B ≤ G) (p q r s u v x : Value) :
    Below B w0 (((((((w.setCell ⟨G, 0, none⟩ p).setCell ⟨G, 1, none⟩ q).setCell ⟨G, 2, none⟩ r).setCell ⟨G, 3, none⟩ s).setCell ⟨G, 4, none⟩ u).setCell ⟨G, 5, none⟩ v).setCell ⟨G, 6, none⟩ x) :=
  ((((((hb.setCell (p := ⟨G, 0, none⟩) hg p).setCell (p := ⟨G, 1, none⟩) hg q).setCell (p := ⟨G, 2, none⟩) hg r).setCell (p := ⟨G, 3, none⟩) hg s).setCell (p := ⟨G, 4, none⟩) hg u).setCell (p := ⟨G, 5, none⟩) hg v).setCell (p := ⟨G, 6, none⟩) hg x
end

/-- Seven words as a value. -/
def blk (a b c d e f g : Nat) : Value := .agg #[.int .u64 (a : Nat), .int .u64 (b : Nat), .int .u64 (c : Nat), .int .u64 (d : Nat), .int .u64 (e : Nat), .int .u64 (f : Nat), .int .u64 (g : Nat)]


theorem row_step {B P a s p l c L A c7 : Nat} (h : a * s + p = l + c * B) (ih : L + c7 * P = A * s + c) : (l + B * L) + c7 * (B * P) = (a + B * A) * s + p := by
  grind

theorem seven_step (s : Nat) {a0 a1 a2 a3 a4 a5 a6 p l0 l1 l2 l3 l4 l5 l6 c1 c2 c3 c4 c5 c6 c7 : Nat} (h0 : a0 * s + p = l0 + c1 * WB) (h1 : a1 * s + c1 = l1 + c2 * WB) (h2 : a2 * s + c2 = l2 + c3 * WB) (h3 : a3 * s + c3 = l3 + c4 * WB) (h4 : a4 * s + c4 = l4 + c5 * WB) (h5 : a5 * s + c5 = l5 + c6 * WB) (h6 : a6 * s + c6 = l6 + c7 * WB) :
    val WB [l0, l1, l2, l3, l4, l5, l6] + c7 * WB ^ 7 = val WB [a0, a1, a2, a3, a4, a5, a6] * s + p := by
  have e : WB ^ 7 = WB * (WB * (WB * (WB * (WB * (WB * (WB * 1)))))) := by
    generalize WB = B
    simp only [Nat.pow_succ, Nat.pow_zero, Nat.one_mul, Nat.mul_one, Nat.mul_assoc]
  rw [e]
  exact row_step h0 (row_step h1 (row_step h2 (row_step h3 (row_step h4 (row_step h5 (row_step h6 (by simp [val])))))))

theorem blk_index (cs : Array Value) (k : Nat) (hk : k < 7) (v : Value) (hv : cs[k]? = some v) (W : World) : (Instr.index 66 (.agg cs) (.int .i64 (k : Nat))).run Tryd.prog W = .ok v W := by
  simp [Instr.index, run_underlying Tryd.underlying66, asIntOf, hk, hv, go_sem]

set_option maxRecDepth 100000 in
set_option maxHeartbeats 1600000 in
theorem scaledPlus_any (a0 a1 a2 a3 a4 a5 a6 s p : Nat) (w : World) (hd : Dig WB [a0, a1, a2, a3, a4, a5, a6]) (hs : s < WB) (hp : p < WB) (hfit : val WB [a0, a1, a2, a3, a4, a5, a6] * s + p < WB ^ 7) :
    Calls Tryd.prog 51 #[blk a0 a1 a2 a3 a4 a5 a6, .int .u64 (s : Nat), .int .u64 (p : Nat)] w fun e w' => (∃ l0 l1 l2 l3 l4 l5 l6, e = .returned (blk l0 l1 l2 l3 l4 l5 l6) ∧ Dig WB [l0, l1, l2, l3, l4, l5, l6] ∧ val WB [l0, l1, l2, l3, l4, l5, l6] = val WB [a0, a1, a2, a3, a4, a5, a6] * s + p) ∧ Below w.heap.size w w' := by
  unfold blk
  have d0 : a0 < WB := hd _ (by simp)
  have d1 : a1 < WB := hd _ (by simp)
  have d2 : a2 < WB := hd _ (by simp)
  have d3 : a3 < WB := hd _ (by simp)
  have d4 : a4 < WB := hd _ (by simp)
  have d5 : a5 < WB := hd _ (by simp)
  have d6 : a6 < WB := hd _ (by simp)
  have mk : ∀ a c : Nat, a < WB → c < WB → ∃ l c', l < WB ∧ c' < WB ∧ a * s + c = l + c' * WB ∧ (∀ W, Calls Tryd.prog 71 #[.int .u64 (a : Nat), .int .u64 (s : Nat), .int .u64 (c : Nat)] W fun e w' => e = .returned (.tuple #[.int .u64 (l : Nat), .int .u64 (c' : Nat)]) ∧ W = w') := fun a c ha hc =>
    ⟨(a * s + c) % WB, (a * s + c) / WB, Nat.mod_lt _ (by unfold WB; omega), mulAdd_hi ha hs hc, by rw [Nat.mul_comm _ WB]; exact (Nat.mod_add_div _ _).symm, fun W => mulAdd_same a s c _ _ ha hs hc rfl rfl W⟩
  obtain ⟨l0, c1, m0, n1, e0, M0⟩ := mk a0 p d0 hp
  obtain ⟨l1, c2, m1, n2, e1, M1⟩ := mk a1 c1 d1 n1
  obtain ⟨l2, c3, m2, n3, e2, M2⟩ := mk a2 c2 d2 n2
  obtain ⟨l3, c4, m3, n4, e3, M3⟩ := mk a3 c3 d3 n3
  obtain ⟨l4, c5, m4, n5, e4, M4⟩ := mk a4 c4 d4 n4
  obtain ⟨l5, c6, m5, n6, e5, M5⟩ := mk a5 c5 d5 n5
  obtain ⟨l6, c7, m6, n7, e6, M6⟩ := mk a6 c6 d6 n6
  have hfin : Dig WB [l0, l1, l2, l3, l4, l5, l6] ∧ val WB [l0, l1, l2, l3, l4, l5, l6] = val WB [a0, a1, a2, a3, a4, a5, a6] * s + p := by
    have h := seven_step s e0 e1 e2 e3 e4 e5 e6
    refine ⟨?_, ?_⟩
    · intro x hx
      simp only [List.mem_cons, List.not_mem_nil, or_false] at hx
      rcases hx with rfl | rfl | rfl | rfl | rfl | rfl | rfl <;> assumption
    · have h7 : c7 = 0 := by
        apply Nat.eq_zero_of_not_pos
        intro h8
        have : 1 * WB ^ 7 ≤ c7 * WB ^ 7 := Nat.mul_le_mul_right _ h8
        omega
      rw [h7] at h
      omega
  have Hfin := Lib.hid hfin; clear hfin
  have K0 := Lib.hid M0; have K1 := Lib.hid M1; have K2 := Lib.hid M2; have K3 := Lib.hid M3; have K4 := Lib.hid M4; have K5 := Lib.hid M5; have K6 := Lib.hid M6
  clear M0 M1 M2 M3 M4 M5 M6 mk hd hs hp hfit d0 d1 d2 d3 d4 d5 d6 e0 e1 e2 e3 e4 e5 e6 m0 m1 m2 m3 m4 m5 m6 n1 n2 n3 n4 n5 n6 n7
  have hix := fun k hk v hv => blk_index #[.int .u64 (a0 : Nat), .int .u64 (a1 : Nat), .int .u64 (a2 : Nat), .int .u64 (a3 : Nat), .int .u64 (a4 : Nat), .int .u64 (a5 : Nat), .int .u64 (a6 : Nat)] k hk v hv
  have x0 : ∀ W, (Instr.index 66 (.agg #[.int .u64 (a0 : Nat), .int .u64 (a1 : Nat), .int .u64 (a2 : Nat), .int .u64 (a3 : Nat), .int .u64 (a4 : Nat), .int .u64 (a5 : Nat), .int .u64 (a6 : Nat)]) (.int .i64 0)).run Tryd.prog W = .ok (.int .u64 (a0 : Nat)) W := hix 0 (by omega) _ rfl
  have x1 : ∀ W, (Instr.index 66 (.agg #[.int .u64 (a0 : Nat), .int .u64 (a1 : Nat), .int .u64 (a2 : Nat), .int .u64 (a3 : Nat), .int .u64 (a4 : Nat), .int .u64 (a5 : Nat), .int .u64 (a6 : Nat)]) (.int .i64 1)).run Tryd.prog W = .ok (.int .u64 (a1 : Nat)) W := hix 1 (by omega) _ rfl
  have x2 : ∀ W, (Instr.index 66 (.agg #[.int .u64 (a0 : Nat), .int .u64 (a1 : Nat), .int .u64 (a2 : Nat), .int .u64 (a3 : Nat), .int .u64 (a4 : Nat), .int .u64 (a5 : Nat), .int .u64 (a6 : Nat)]) (.int .i64 2)).run Tryd.prog W = .ok (.int .u64 (a2 : Nat)) W := hix 2 (by omega) _ rfl
  have x3 : ∀ W, (Instr.index 66 (.agg #[.int .u64 (a0 : Nat), .int .u64 (a1 : Nat), .int .u64 (a2 : Nat), .int .u64 (a3 : Nat), .int .u64 (a4 : Nat), .int .u64 (a5 : Nat), .int .u64 (a6 : Nat)]) (.int .i64 3)).run Tryd.prog W = .ok (.int .u64 (a3 : Nat)) W := hix 3 (by omega) _ rfl
  have x4 : ∀ W, (Instr.index 66 (.agg #[.int .u64 (a0 : Nat), .int .u64 (a1 : Nat), .int .u64 (a2 : Nat), .int .u64 (a3 : Nat), .int .u64 (a4 : Nat), .int .u64 (a5 : Nat), .int .u64 (a6 : Nat)]) (.int .i64 4)).run Tryd.prog W = .ok (.int .u64 (a4 : Nat)) W := hix 4 (by omega) _ rfl
  have x5 : ∀ W, (Instr.index 66 (.agg #[.int .u64 (a0 : Nat), .int .u64 (a1 : Nat), .int .u64 (a2 : Nat), .int .u64 (a3 : Nat), .int .u64 (a4 : Nat), .int .u64 (a5 : Nat), .int .u64 (a6 : Nat)]) (.int .i64 5)).run Tryd.prog W = .ok (.int .u64 (a5 : Nat)) W := hix 5 (by omega) _ rfl
  have x6 : ∀ W, (Instr.index 66 (.agg #[.int .u64 (a0 : Nat), .int .u64 (a1 : Nat), .int .u64 (a2 : Nat), .int .u64 (a3 : Nat), .int .u64 (a4 : Nat), .int .u64 (a5 : Nat), .int .u64 (a6 : Nat)]) (.int .i64 6)).run Tryd.prog W = .ok (.int .u64 (a6 : Nat)) W := hix 6 (by omega) _ rfl
  clear hix
  go_enter Tryd.func51, Tryd.ntmps51
  go_wp2_with fail
  refine wp_loop_rounds 8 ?_
  rw [rounds_succ]
  go_wp2_with (go_at_call 71; refine (K0.out _).mono ?_; rintro e w' ⟨rfl, rfl⟩)
  rw [rounds_succ]
  go_wp2_with (go_at_call 71; refine (K1.out _).mono ?_; rintro e w' ⟨rfl, rfl⟩)
  rw [rounds_succ]
  go_wp2_with (go_at_call 71; refine (K2.out _).mono ?_; rintro e w' ⟨rfl, rfl⟩)
  rw [rounds_succ]
  go_wp2_with (go_at_call 71; refine (K3.out _).mono ?_; rintro e w' ⟨rfl, rfl⟩)
  rw [rounds_succ]
  go_wp2_with (go_at_call 71; refine (K4.out _).mono ?_; rintro e w' ⟨rfl, rfl⟩)
  rw [rounds_succ]
  go_wp2_with (go_at_call 71; refine (K5.out _).mono ?_; rintro e w' ⟨rfl, rfl⟩)
  rw [rounds_succ]
  go_wp2_with (go_at_call 71; refine (K6.out _).mono ?_; rintro e w' ⟨rfl, rfl⟩)
  rw [rounds_succ]
  go_wp2_with fail
  exact bodyPost_ret (v := .agg #[.int .u64 (l0 : Nat), .int .u64 (l1 : Nat), .int .u64 (l2 : Nat), .int .u64 (l3 : Nat), .int .u64 (l4 : Nat), .int .u64 (l5 : Nat), .int .u64 (l6 : Nat)]) (by simp [results, Tryd.results51, go_sem]; done) rfl ⟨⟨l0, l1, l2, l3, l4, l5, l6, rfl, Hfin.out.1, Hfin.out.2⟩, by first | exact ((Below.refl _ w).alloc (Nat.le_refl _) _).alloc (by simp) _ | skip⟩

end Go.Proofs.YtbcckgofoknmbaaDoor
/-
  Blocks of seven words compared.
-/
namespace Go.Proofs.YtbcckgofoknmbaaDoor
open Go.RowKit Num

theorem Tryd.plain_u64 : Tryd.prog.plainKey 64 = true := by kernel_rfl
theorem Tryd.cells_u64 : Tryd.prog.cellsOf 64 = 1 := by kernel_rfl

theorem eq_item (xs ys : Array Value) (i : Nat) (is : List Nat) (a b : Nat) (hx : xs[i]? = some (.int .u64 (a : Nat))) (hy : ys[i]? = some (.int .u64 (b : Nat))) (W : World) :
    (Op.eqItems 9999 64 1 xs ys (i :: is)).run Tryd.prog W = if a = b then (Op.eqItems 9999 64 1 xs ys is).run Tryd.prog W else .ok false W := by
  have h1 := run_part_plain (P := Tryd.prog) (w := W) (e := 64) Tryd.plain_u64 (xs := xs) (off := i) hx
  have h2 := run_part_plain (P := Tryd.prog) (w := W) (e := 64) Tryd.plain_u64 (xs := ys) (off := i) hy
  have h3 := run_equalIn_int (P := Tryd.prog) (w := W) 9998 64 .u64 .u64 (a : Int) (b : Int) Tryd.underlying64
  simp only [Op.eqItems, Sem.run_bind, Nat.mul_one, h1, h2, h3, Result.andThen_ok]
  by_cases h : a = b
  · subst h; simp
  · have : ((a : Int) == (b : Int)) = false := by rw [beq_eq_false_iff_ne]; omega
    simp [this, h]

theorem blk_equal (a0 a1 a2 a3 a4 a5 a6 b0 b1 b2 b3 b4 b5 b6 : Nat) (W : World) : (Op.equalIn 10000 66 (blk a0 a1 a2 a3 a4 a5 a6) (blk b0 b1 b2 b3 b4 b5 b6)).run Tryd.prog W = .ok (decide ([a0, a1, a2, a3, a4, a5, a6] = [b0, b1, b2, b3, b4, b5, b6])) W := by
  unfold blk
  obtain ⟨i0, hi, _, _, _⟩ := info_parts Tryd.info_u64
  rw [run_equalIn_array (P := Tryd.prog) (w := W) 9999 (t := 66) (e := 64) (n := 7) _ _ Tryd.underlying66 hi, Tryd.cells_u64, show List.range 7 = [0, 1, 2, 3, 4, 5, 6] from rfl]
  rw [eq_item _ _ 0 _ a0 b0 rfl rfl, eq_item _ _ 1 _ a1 b1 rfl rfl, eq_item _ _ 2 _ a2 b2 rfl rfl, eq_item _ _ 3 _ a3 b3 rfl rfl, eq_item _ _ 4 _ a4 b4 rfl rfl, eq_item _ _ 5 _ a5 b5 rfl rfl, eq_item _ _ 6 _ a6 b6 rfl rfl]
  by_cases h0 : a0 = b0
  · by_cases h1 : a1 = b1
    · by_cases h2 : a2 = b2
      · by_cases h3 : a3 = b3
        · by_cases h4 : a4 = b4
          · by_cases h5 : a5 = b5
            · by_cases h6 : a6 = b6
              · simp [*, Op.eqItems]
              · simp [*]
            · simp [*]
          · simp [*]
        · simp [*]
      · simp [*]
    · simp [*]
  · simp [*]

/-- Equal blocks are equal numbers. -/
theorem blk_val (xs ys : List Nat) (hx : Dig WB xs) (hy : Dig WB ys) (hl : xs.length = ys.length) : decide (xs = ys) = decide (val WB xs = val WB ys) := by
  rw [decide_eq_decide]
  exact ⟨fun h => by rw [h], fun h => by
    have h1 := getD_vals xs ys hx hy hl h
    exact h1⟩
where
  getD_vals (xs ys : List Nat) (hx : Dig WB xs) (hy : Dig WB ys) (hl : xs.length = ys.length) (h : val WB xs = val WB ys) : xs = ys := by
    exact val_inj WB xs ys hx hy hl h

theorem blk_eql (a0 a1 a2 a3 a4 a5 a6 b0 b1 b2 b3 b4 b5 b6 : Nat) (r : Bool) (hr : r = decide ([a0, a1, a2, a3, a4, a5, a6] = [b0, b1, b2, b3, b4, b5, b6])) (W : World) : (binOp .eql 66 (blk a0 a1 a2 a3 a4 a5 a6) (blk b0 b1 b2 b3 b4 b5 b6)).run Tryd.prog W = .ok (.bool r) W := by
  have h := blk_equal a0 a1 a2 a3 a4 a5 a6 b0 b1 b2 b3 b4 b5 b6 W
  unfold blk at h ⊢
  rw [run_eql_struct, h, hr]
  rfl

theorem blk_neq (a0 a1 a2 a3 a4 a5 a6 b0 b1 b2 b3 b4 b5 b6 : Nat) (r : Bool) (hr : r = decide ([a0, a1, a2, a3, a4, a5, a6] = [b0, b1, b2, b3, b4, b5, b6])) (W : World) : (binOp .neq 66 (blk a0 a1 a2 a3 a4 a5 a6) (blk b0 b1 b2 b3 b4 b5 b6)).run Tryd.prog W = .ok (.bool !r) W := by
  have h := blk_equal a0 a1 a2 a3 a4 a5 a6 b0 b1 b2 b3 b4 b5 b6 W
  unfold blk at h ⊢
  rw [run_neq_struct, h, hr]
  rfl
end Go.Proofs.YtbcckgofoknmbaaDoor
/-
  The program's block as a number.
-/
namespace Go.Proofs.YtbcckgofoknmbaaDoor
open Go.RowKit Num

set_option maxRecDepth 100000 in
set_option maxHeartbeats 800000 in
theorem clone_row (b off m ca : Nat) (zs : List Nat) (w : World) (hl : zs.length = m) (hc : ∀ j, j < m → w.cell? ⟨b, off + j, none⟩ = some (.int .u64 (zs.getD j 0 : Nat))) (hb : b < w.heap.size) (hmb : m ≤ 1099511627776) :
    Calls Tryd.prog 52 #[.slice (some ⟨b, off, none⟩) m ca] w fun e w' => (∃ v, e = .returned v ∧ RowF 64 .u64 w' v m fun j => zs.getD j 0) ∧ Below w.heap.size w w' := by
  obtain ⟨i0, hi, hz0, hz1, hz2⟩ := info_parts Tryd.info_u64p
  have hA : ∀ j u, (cellsOf .u64 (fun j => zs.getD j 0) m)[j]? = some u → (w.alloc (.cells #[] 64)).cell? ((⟨b, off, none⟩ : Addr).add j) = some u := fun j u hu => by
    obtain ⟨hj, rfl⟩ := cellsOf_get hu
    have e : (⟨b, off, none⟩ : Addr).add j = ⟨b, off + j, none⟩ := by unfold Addr.add; split <;> simp_all
    rw [e, World.cell?_alloc_lt w _ _ hb]
    exact hc j hj
  have hone : ∀ u ∈ cellsOf .u64 (fun j => zs.getD j 0) m, u.oneCell' = true := fun u hu => by
    obtain ⟨j, hj⟩ := List.getElem?_of_mem hu
    obtain ⟨_, rfl⟩ := cellsOf_get hj
    rfl
  have hlit : (w.alloc (.cells #[] 64)).ownsRow w.heap.size 64 1 (.slice (some ⟨w.heap.size, 0, none⟩) 0 0) 0 [] := World.ownsRow_lit w #[] 0 (Nat.le_refl _) (by unfold maxLen; omega) (by simp)
  have HA := Lib.hid hA
  have Hone := Lib.hid hone
  have Hlit := Lib.hid hlit
  have Hl := Lib.hid hl
  have hm : 0 + m ≤ maxLen := by unfold maxLen; omega
  clear hA hone hlit hc hl
  have hnil : ∀ W, (binOp .eql 41 (.slice (some ⟨b, off, none⟩) m ca) (.slice none 0 0)).run Tryd.prog W = .ok (.bool false) W := fun W => by
    have := Lib.run_eql_slice_nil (P := Tryd.prog) (w := W) (t := 41) (e := 64) (a := some ⟨b, off, none⟩) (n := m) (c := ca) (n' := 0) (c' := 0) (h := Tryd.underlying41)
    exact this
  go_enter Tryd.func52, Tryd.ntmps52
  go_wp2_with (at_builtin; refine wpList_append_own _ rfl _ _ 41 rfl w.heap.size 64 i0 (.int .u64 0) 1 8 Tryd.underlying41 hi hz0 hz1 hz2 rfl (by omega) _ 0 _ rfl Hlit.out ⟨b, off, none⟩ m ca (cellsOf .u64 (fun j => zs.getD j 0) m) rfl (by simp [cellsOf]) HA.out Hone.out hm (by omega) (by simp) ?_; intro v1 w1 hown1 hgrow1 _)
  go_ret
  have hb1 := built_below hgrow1
  rw [List.nil_append, Nat.zero_add] at hown1
  have e1 : cellsOf .u64 (fun j => zs.getD j 0) m = zs.map fun x => Value.int .u64 (x : Nat) := by
    apply List.ext_getElem
    · simp [cellsOf, Hl.out]
    · intro i h1 h2
      simp only [cellsOf, List.getElem_map, List.getElem_range]
      have h3 : i < zs.length := by simpa using h2
      rw [getD_eq _ _ h3]
  rw [e1] at hown1
  exact ⟨⟨_, rfl, rowF_own zs Hl.out hown1⟩, hb1⟩

set_option maxRecDepth 100000 in
set_option maxHeartbeats 1600000 in
theorem natural_any (a0 a1 a2 a3 a4 a5 a6 : Nat) (w : World) (hd : Dig WB [a0, a1, a2, a3, a4, a5, a6]) :
    Calls Tryd.prog 37 #[blk a0 a1 a2 a3 a4 a5 a6] w fun e w' => (∃ v, e = .returned v ∧ Nums 64 .u64 WB w' v (val WB [a0, a1, a2, a3, a4, a5, a6])) ∧ Below w.heap.size w w' := by
  unfold blk
  obtain ⟨xs, hxs⟩ : ∃ xs, xs = [a0, a1, a2, a3, a4, a5, a6] := ⟨_, rfl⟩
  have hbox := Box.new w 66 #[.int .u64 (a0 : Nat), .int .u64 (a1 : Nat), .int .u64 (a2 : Nat), .int .u64 (a3 : Nat), .int .u64 (a4 : Nat), .int .u64 (a5 : Nat), .int .u64 (a6 : Nat)]
  have hcell : ∀ j, j < 7 → (w.alloc (.cells #[.int .u64 (a0 : Nat), .int .u64 (a1 : Nat), .int .u64 (a2 : Nat), .int .u64 (a3 : Nat), .int .u64 (a4 : Nat), .int .u64 (a5 : Nat), .int .u64 (a6 : Nat)] 66)).cell? ⟨w.heap.size, 0 + j, none⟩ = some (.int .u64 (xs.getD j 0 : Nat)) := fun j hj => by
    rw [hxs, Nat.zero_add, hbox.cell j]
    match j, hj with
    | 0, _ => rfl
    | 1, _ => rfl
    | 2, _ => rfl
    | 3, _ => rfl
    | 4, _ => rfl
    | 5, _ => rfl
    | 6, _ => rfl
  rw [← hxs] at hd ⊢
  have hl7 : xs.length = 7 := by rw [hxs]; rfl
  obtain ⟨m, hm, hz, hnz⟩ := top_nonzero (fun j => xs.getD j 0) 7
  have hst := strip WB WB_two xs hd m (by omega) (fun j hj hmj => by rw [← getD_eq _ _ hj]; exact hz j hmj (by omega)) (fun h0 => by rw [← getD_eq _ _ (by omega)]; exact hnz h0)
  have hln : ln WB (val WB xs) = m := by rw [ln, ← hst, List.length_take]; omega
  have C1 := Lib.hid (trimW_row w.heap.size 0 7 7 m _ _ (Nat.le_refl _) (by unfold maxLen; omega) hm hcell hz hnz)
  have C2 := Lib.hid (clone_row w.heap.size 0 m 7 (digs WB (val WB xs)) (w.alloc (.cells #[.int .u64 (a0 : Nat), .int .u64 (a1 : Nat), .int .u64 (a2 : Nat), .int .u64 (a3 : Nat), .int .u64 (a4 : Nat), .int .u64 (a5 : Nat), .int .u64 (a6 : Nat)] 66)) (by rw [length_digs, hln]) (fun j hj => by
    rw [hcell j (by omega), ← hst]
    congr 3
    rw [List.getD_eq_getElem?_getD, List.getD_eq_getElem?_getD, List.getElem?_take, if_pos hj]) hbox.lt (by omega))
  have Hln := Lib.hid hln
  clear hbox hcell hz hnz hst hln hd hl7 hxs
  go_enter Tryd.func37, Tryd.ntmps37
  go_wp2_with fail
  refine C1.out.mono ?_
  rintro e w' ⟨rfl, rfl⟩
  go_wp2_with fail
  refine C2.out.mono ?_
  rintro e w1 ⟨⟨v, rfl, hv⟩, hb1⟩
  have hv' : Nums 64 .u64 WB w1 v (val WB xs) := by unfold Nums; rw [Hln.out]; exact hv
  have Hv := Lib.hid hv'
  have Hb1 := Lib.hid hb1
  clear hv hv' hb1
  go_wp2_with fail
  go_ret
  exact ⟨⟨_, rfl, Hv.out⟩, ((Below.refl _ w).alloc (Nat.le_refl _) _).trans (Hb1.out.mono (by simp))⟩

end Go.Proofs.YtbcckgofoknmbaaDoor
/-
  Several texts in one: NumeralS, NumeralW.
-/
/-
  The model's test whether a text is a numeral.
-/
namespace Go.Proofs.YtbcckgofoknmbaaDoor
open Go.RowKit Num

theorem in_any (n lo hi : Int) (w : World) :
    Calls Tryd.prog 30 #[.int .i64 n, .int .i64 lo, .int .i64 hi] w fun e w' => e = .returned (.bool (decide (lo ≤ n ∧ n ≤ hi))) ∧ w = w' := by
  by_cases h1 : lo ≤ n
  · have e : decide (lo ≤ n ∧ n ≤ hi) = decide (n ≤ hi) := by simp [h1]
    rw [e]
    go_enter Tryd.func30, Tryd.ntmps30
    go_wp2_with fail
    all_goals first
      | (go_ret; exact ⟨rfl, rfl⟩)
      | (exfalso; omega)
  · have e : decide (lo ≤ n ∧ n ≤ hi) = false := by simp [h1]
    rw [e]
    go_enter Tryd.func30, Tryd.ntmps30
    go_wp2_with fail
    all_goals first
      | (go_ret; exact ⟨rfl, rfl⟩)
      | (exfalso; omega)

/-- Byte j of the text s. -/
def byt (s : ByteArray) (j : Nat) : Nat := (s.data.getD j 0).toNat

theorem byt_eq (s : ByteArray) (j : Nat) (h : j < s.size) : s[j].toNat = byt s j := by
  simp [byt, Array.getD, h]
  rfl

/-- A numeral: 1 to 120 digits, the first one not 0 unless it stands alone. -/
def isNum (s : ByteArray) : Bool := decide ((1 ≤ s.size ∧ s.size ≤ 120) ∧ (∀ j, j < s.size → 48 ≤ byt s j ∧ byt s j ≤ 57) ∧ (byt s 0 ≠ 48 ∨ s.size = 1))

set_option maxHeartbeats 800000 in
theorem numeral_any (s : ByteArray) (w : World) (hs : s.size ≤ 9223372036854775807) :
    Calls Tryd.prog 17 #[.string s] w fun e w' => e = .returned (.bool (isNum s)) ∧ ∃ nq, w' = w.drewN nq := by
  obtain ⟨r, hr⟩ : ∃ r, r = isNum s := ⟨_, rfl⟩
  rw [← hr]
  have Hr := Lib.hid hr; clear hr
  go_enter Tryd.func17, Tryd.ntmps17
  go_wp2_with fail
  go_loopw [3] (fun i wr => ∃ k nq : Nat, (k ≤ s.size ∧ ∀ j, j < k → 48 ≤ byt s j ∧ byt s j ≤ 57) ∧ i = .int .i64 (k : Int) ∧ wr = w.drewN nq) (fun i _ => ((s.size : Int) - intOf i).toNat)
  case atStart => exact ⟨0, 0, ⟨by omega, fun j h => by omega⟩, rfl, rfl⟩
  case round =>
    obtain ⟨k, n0, hk', rfl, hwr⟩ := hrel
    have hk := hk'.1
    have Hk := Lib.hid hk'.2; clear hk'
    have Hwr := Lib.hid hwr; clear hwr
    by_cases hk0 : k < s.size
    · have hb := byt_eq s k hk0
      by_cases hdig : 48 ≤ byt s k ∧ byt s k ≤ 57
      · have hd1 : decide ((s[k].toNat : Int) < 48) = false := by rw [decide_eq_false_iff_not]; omega
        have hd2 : decide ((57 : Int) < (s[k].toNat : Int)) = false := by rw [decide_eq_false_iff_not]; omega
        have Hdig := Lib.hid hdig; clear hdig
        have Hb := Lib.hid hb; clear hb
        go_wp2_with fail
        all_goals first
          | (refine ⟨⟨k + 1, n0, ⟨by omega, fun j hj => ?_⟩, by simp, Hwr.out⟩, by simp [intOf]; omega⟩
             by_cases hjk : j < k
             · exact Hk.out j hjk
             · obtain rfl : j = k := by omega
               exact Hdig.out)
          | (exfalso; have := Hdig.out; have := Hb.out; omega)
      · have hf : isNum s = false := by rw [isNum, decide_eq_false_iff_not]; rintro ⟨-, h, -⟩; exact hdig (h k hk0)
        have hrf : r = false := by rw [Hr.out]; exact hf
        subst hrf
        go_wp2_with fail
        all_goals first
          | (go_ret; exact ⟨rfl, n0, Hwr.out⟩)
          | (exfalso; omega)
    · obtain rfl : k = s.size := by omega
      by_cases hsz : 1 ≤ s.size ∧ s.size ≤ 120
      · have hb := byt_eq s 0 (by omega)
        have hin : decide ((1 : Int) ≤ (s.size : Int) ∧ (s.size : Int) ≤ 120) = true := by rw [decide_eq_true_iff]; omega
        have c1 : ∀ W, Calls Tryd.prog 30 #[.int .i64 s.size, .int .i64 1, .int .i64 120] W fun e w' => e = .returned (.bool true) ∧ W = w' := fun W => by rw [← hin]; exact in_any _ _ _ _
        have C1 := Lib.hid c1; clear c1
        have h0 : 0 < s.size := by omega
        go_wp2_with (go_at_call 30; refine (C1.out _).mono ?_; rintro e w' ⟨rfl, rfl⟩)
        all_goals first
          | (have h48 : byt s 0 = 48 := by omega
             have hv : r = ((s.size : Int) == 1) := by
               rw [Hr.out, isNum, Bool.eq_iff_iff, decide_eq_true_iff, beq_iff_eq]
               exact ⟨fun ⟨_, _, h⟩ => by omega, fun h => ⟨hsz, Hk.out, Or.inr (by omega)⟩⟩
             go_ret
             exact ⟨by rw [hv]; rfl, n0, Hwr.out⟩)
          | (have h48 : byt s 0 ≠ 48 := by omega
             have hv : r = true := by
               rw [Hr.out, isNum, decide_eq_true_iff]
               exact ⟨hsz, Hk.out, Or.inl h48⟩
             go_ret
             exact ⟨by rw [hv]; rfl, n0, Hwr.out⟩)
      · have hf : isNum s = false := by rw [isNum, decide_eq_false_iff_not]; rintro ⟨h, -, -⟩; exact hsz h
        have hrf : r = false := by rw [Hr.out]; exact hf
        subst hrf
        have hin : decide ((1 : Int) ≤ (s.size : Int) ∧ (s.size : Int) ≤ 120) = false := by rw [decide_eq_false_iff_not]; omega
        have c1 : ∀ W, Calls Tryd.prog 30 #[.int .i64 s.size, .int .i64 1, .int .i64 120] W fun e w' => e = .returned (.bool false) ∧ W = w' := fun W => by rw [← hin]; exact in_any _ _ _ _
        have C1 := Lib.hid c1; clear c1
        go_wp2_with (go_at_call 30; refine (C1.out _).mono ?_; rintro e w' ⟨rfl, rfl⟩)
        all_goals first
          | (go_ret; exact ⟨rfl, n0, Hwr.out⟩)
          | (exfalso; omega)

end Go.Proofs.YtbcckgofoknmbaaDoor
/-
  The program's test whether a text is a numeral.
-/
namespace Go.Proofs.YtbcckgofoknmbaaDoor
open Go.RowKit Num

theorem list_size (s : ByteArray) : s.toList.length = s.size := by
  rw [Lib.toList_data]; rfl

theorem list_empty (s : ByteArray) : s.toList.isEmpty = decide (s.size = 0) := by
  rw [← list_size]; cases s.toList <;> simp

theorem list_zero (s : ByteArray) : s.toList = [48] ↔ s.size = 1 ∧ byt s 0 = 48 := by
  rw [Lib.toList_data]
  have hs : s.size = s.data.toList.length := rfl
  constructor
  · intro h
    have h1 : s.size = 1 := by rw [hs, h]; rfl
    refine ⟨h1, ?_⟩
    rw [← byt_eq s 0 (by omega)]
    have : s.data = #[48] := by
      apply Array.ext'
      exact h
    show (s.data[0]'_).toNat = 48
    simp [this]
  · rintro ⟨h1, h2⟩
    rw [hs] at h1
    match hd : s.data.toList, h1 with
    | [a], _ =>
      have : s.data = #[a] := by
        apply Array.ext'
        exact hd
      simp [byt, this] at h2
      have : a = 48 := UInt8.toNat_inj.1 (by simpa using h2)
      rw [this]

theorem digW_any (c : Nat) (w : World) : Calls Tryd.prog 75 #[.int .u8 (c : Int)] w fun e w' => e = .returned (.bool (decide (48 ≤ c ∧ c ≤ 57))) ∧ w = w' := by
  by_cases h1 : 48 ≤ c
  · have e : decide (48 ≤ c ∧ c ≤ 57) = decide ((c : Int) ≤ 57) := by simp only [h1, true_and]; exact decide_eq_decide.2 (by omega)
    rw [e]
    go_enter Tryd.func75, Tryd.ntmps75
    go_wp2_with fail
    all_goals first
      | (go_ret; exact ⟨rfl, rfl⟩)
      | (exfalso; omega)
  · have e : decide (48 ≤ c ∧ c ≤ 57) = false := by simp [h1]
    rw [e]
    go_enter Tryd.func75, Tryd.ntmps75
    go_wp2_with fail
    all_goals first
      | (go_ret; exact ⟨rfl, rfl⟩)
      | (exfalso; omega)

set_option maxRecDepth 100000 in
set_option maxHeartbeats 800000 in
theorem numeralW_any (s : ByteArray) (w : World) (hs : s.size ≤ 9223372036854775807) :
    Calls Tryd.prog 50 #[.string s] w fun e w' => e = .returned (.bool (isNum s)) ∧ ∃ nq, w' = w.drewN nq := by
  obtain ⟨r, hr⟩ : ∃ r, r = isNum s := ⟨_, rfl⟩
  rw [← hr]
  have Hr := Lib.hid hr; clear hr
  have he := list_empty s
  by_cases hsz : 1 ≤ s.size ∧ s.size ≤ 120
  · have hb := byt_eq s 0 (by omega)
    have h0 : 0 < s.size := by omega
    have he' : s.toList.isEmpty = false := by rw [he, decide_eq_false_iff_not]; omega
    have hne : ¬ s.toList = [] := by intro h; rw [h] at he'; cases he'
    clear he
    have h120 : decide ((120 : Int) < (s.size : Int)) = false := by rw [decide_eq_false_iff_not]; omega
    by_cases hz : byt s 0 = 48
    · have hz1 : ((byt s 0 : Int) == 48) = true := by rw [beq_iff_eq]; omega
      by_cases h1 : s.size = 1
      · have hl : (s.toList == [48]) = true := by rw [beq_iff_eq]; exact (list_zero s).2 ⟨h1, hz⟩
        have Hz := Lib.hid hz; clear hz
        go_enter Tryd.func50, Tryd.ntmps50
        go_wp2_with fail
        go_loopw [22] (fun i wr => ∃ k nq : Nat, (k ≤ s.size ∧ ∀ j, j < k → 48 ≤ byt s j ∧ byt s j ≤ 57) ∧ i = .int .i64 (k : Int) ∧ wr = w.drewN nq) (fun i _ => ((s.size : Int) - intOf i).toNat)
        case atStart => exact ⟨0, 0, ⟨by omega, fun j h => by omega⟩, rfl, rfl⟩
        case round =>
          obtain ⟨k, n0, hk', rfl, hwr⟩ := hrel
          have hk := hk'.1
          have Hk := Lib.hid hk'.2; clear hk'
          have Hwr := Lib.hid hwr; clear hwr
          by_cases hk0 : k < s.size
          · have hbk := byt_eq s k hk0
            by_cases hdig : 48 ≤ byt s k ∧ byt s k ≤ 57
            · have c1 : ∀ W, Calls Tryd.prog 75 #[.int .u8 (s[k].toNat : Int)] W fun e w' => e = .returned (.bool true) ∧ W = w' := fun W => by
                have := digW_any s[k].toNat W
                rwa [hbk, decide_eq_true hdig, ← hbk] at this
              have C1 := Lib.hid c1; clear c1
              have Hdig := Lib.hid hdig; clear hdig
              have Hbk := Lib.hid hbk; clear hbk
              go_wp2_with (go_at_call 75; refine (C1.out _).mono ?_; rintro e w' ⟨rfl, rfl⟩)
              all_goals first
                | (refine ⟨⟨k + 1, n0, ⟨by omega, fun j hj => ?_⟩, by simp, Hwr.out⟩, by simp [intOf]; omega⟩
                   by_cases hjk : j < k
                   · exact Hk.out j hjk
                   · obtain rfl : j = k := by omega
                     exact Hdig.out)
                | (exfalso; have := Hdig.out; have := Hbk.out; omega)
            · have hrf : r = false := by
                rw [Hr.out, isNum, decide_eq_false_iff_not]
                rintro ⟨-, h, -⟩
                exact hdig (h k hk0)
              subst hrf
              have c1 : ∀ W, Calls Tryd.prog 75 #[.int .u8 (s[k].toNat : Int)] W fun e w' => e = .returned (.bool false) ∧ W = w' := fun W => by
                have := digW_any s[k].toNat W
                rwa [hbk, decide_eq_false hdig, ← hbk] at this
              have C1 := Lib.hid c1; clear c1
              clear hbk hdig
              go_wp2_with (go_at_call 75; refine (C1.out _).mono ?_; rintro e w' ⟨rfl, rfl⟩)
              all_goals first
                | (go_ret; exact ⟨rfl, n0, Hwr.out⟩)
                | (exfalso; omega)
          · obtain rfl : k = s.size := by omega
            have hv : r = true := by
              rw [Hr.out, isNum, decide_eq_true_iff]
              exact ⟨hsz, Hk.out, by omega⟩
            subst hv
            go_wp2_with fail
            go_ret
            exact ⟨rfl, n0, Hwr.out⟩
      · have hl : (s.toList == [48]) = false := by rw [beq_eq_false_iff_ne]; exact fun h => h1 ((list_zero s).1 h).1
        have hrf : r = false := by
          rw [Hr.out, isNum, decide_eq_false_iff_not]
          rintro ⟨-, -, h⟩
          omega
        subst hrf
        go_enter Tryd.func50, Tryd.ntmps50
        go_wp2_with fail
        go_ret
        exact ⟨rfl, 0, rfl⟩
    · have hz1 : ((byt s 0 : Int) == 48) = false := by rw [beq_eq_false_iff_ne]; omega
      go_enter Tryd.func50, Tryd.ntmps50
      go_wp2_with fail
      go_loopw [22] (fun i wr => ∃ k nq : Nat, (k ≤ s.size ∧ ∀ j, j < k → 48 ≤ byt s j ∧ byt s j ≤ 57) ∧ i = .int .i64 (k : Int) ∧ wr = w.drewN nq) (fun i _ => ((s.size : Int) - intOf i).toNat)
      case atStart => exact ⟨0, 0, ⟨by omega, fun j h => by omega⟩, rfl, rfl⟩
      case round =>
        obtain ⟨k, n0, hk', rfl, hwr⟩ := hrel
        have hk := hk'.1
        have Hk := Lib.hid hk'.2; clear hk'
        have Hwr := Lib.hid hwr; clear hwr
        by_cases hk0 : k < s.size
        · have hbk := byt_eq s k hk0
          by_cases hdig : 48 ≤ byt s k ∧ byt s k ≤ 57
          · have c1 : ∀ W, Calls Tryd.prog 75 #[.int .u8 (s[k].toNat : Int)] W fun e w' => e = .returned (.bool true) ∧ W = w' := fun W => by
              have := digW_any s[k].toNat W
              rwa [hbk, decide_eq_true hdig, ← hbk] at this
            have C1 := Lib.hid c1; clear c1
            have Hdig := Lib.hid hdig; clear hdig
            have Hbk := Lib.hid hbk; clear hbk
            go_wp2_with (go_at_call 75; refine (C1.out _).mono ?_; rintro e w' ⟨rfl, rfl⟩)
            all_goals first
              | (refine ⟨⟨k + 1, n0, ⟨by omega, fun j hj => ?_⟩, by simp, Hwr.out⟩, by simp [intOf]; omega⟩
                 by_cases hjk : j < k
                 · exact Hk.out j hjk
                 · obtain rfl : j = k := by omega
                   exact Hdig.out)
              | (exfalso; have := Hdig.out; have := Hbk.out; omega)
          · have hrf : r = false := by
              rw [Hr.out, isNum, decide_eq_false_iff_not]
              rintro ⟨-, h, -⟩
              exact hdig (h k hk0)
            subst hrf
            have c1 : ∀ W, Calls Tryd.prog 75 #[.int .u8 (s[k].toNat : Int)] W fun e w' => e = .returned (.bool false) ∧ W = w' := fun W => by
              have := digW_any s[k].toNat W
              rwa [hbk, decide_eq_false hdig, ← hbk] at this
            have C1 := Lib.hid c1; clear c1
            clear hbk hdig
            go_wp2_with (go_at_call 75; refine (C1.out _).mono ?_; rintro e w' ⟨rfl, rfl⟩)
            all_goals first
              | (go_ret; exact ⟨rfl, n0, Hwr.out⟩)
              | (exfalso; omega)
        · obtain rfl : k = s.size := by omega
          have hv : r = true := by
            rw [Hr.out, isNum, decide_eq_true_iff]
            exact ⟨hsz, Hk.out, by omega⟩
          subst hv
          go_wp2_with fail
          go_ret
          exact ⟨rfl, n0, Hwr.out⟩
  · have hrf : r = false := by
      rw [Hr.out, isNum, decide_eq_false_iff_not]
      rintro ⟨h, -, -⟩
      exact hsz h
    subst hrf
    by_cases h0 : s.size = 0
    · have he' : s.toList.isEmpty = true := by rw [he, decide_eq_true_iff]; exact h0
      clear he
      go_enter Tryd.func50, Tryd.ntmps50
      go_wp2_with fail
      go_ret
      exact ⟨rfl, 0, rfl⟩
    · have he' : s.toList.isEmpty = false := by rw [he, decide_eq_false_iff_not]; exact h0
      have hne : ¬ s.toList = [] := by intro h; rw [h] at he'; cases he'
      clear he
      have h120 : decide ((120 : Int) < (s.size : Int)) = true := by rw [decide_eq_true_iff]; omega
      go_enter Tryd.func50, Tryd.ntmps50
      go_wp2_with fail
      go_ret
      exact ⟨rfl, 0, rfl⟩

end Go.Proofs.YtbcckgofoknmbaaDoor
/-
  The program's reading of a numeral into a block of words.
-/
namespace Go.Proofs.YtbcckgofoknmbaaDoor
open Go.RowKit Num

/-- Digit j of a text. -/
def dgt (s : ByteArray) (j : Nat) : Nat := byt s j - 48

/-- The number that a numeral says. -/
def numOf (s : ByteArray) : Nat := Read.rd (dgt s) s.size

theorem isNum_parts {s : ByteArray} (h : isNum s = true) : (1 ≤ s.size ∧ s.size ≤ 120) ∧ (∀ j, j < s.size → 48 ≤ byt s j ∧ byt s j ≤ 57) ∧ (byt s 0 ≠ 48 ∨ s.size = 1) := by
  unfold isNum at h
  exact of_decide_eq_true h

theorem pow120 : (10 : Nat) ^ 120 ≤ WB ^ 7 := by unfold WB; decide

theorem rd_bound {s : ByteArray} (h : isNum s = true) (k : Nat) (hk : k ≤ s.size) : Read.rd (dgt s) k < WB ^ 7 := by
  obtain ⟨h1, h2, _⟩ := isNum_parts h
  have h3 := Read.rd_lt (dgt s) k fun j hj => by have := h2 j (by omega); unfold dgt; omega
  have h4 : (10 : Nat) ^ k ≤ 10 ^ 120 := Nat.pow_le_pow_right (by omega) (by omega)
  have := pow120
  omega

theorem numOf_lt {s : ByteArray} (h : isNum s = true) : numOf s < 10 ^ 120 := by
  obtain ⟨h1, h2, _⟩ := isNum_parts h
  have h3 := Read.rd_lt (dgt s) s.size fun j hj => by have := h2 j (by omega); unfold dgt; omega
  have h4 : (10 : Nat) ^ s.size ≤ 10 ^ 120 := Nat.pow_le_pow_right (by omega) (by omega)
  unfold numOf
  omega

set_option maxRecDepth 100000 in
set_option maxHeartbeats 1600000 in
theorem numBlock_no (s : ByteArray) (w : World) (h : isNum s = false) (hs : s.size ≤ 9223372036854775807) :
    Calls Tryd.prog 36 #[.string s] w fun e w' => e = .returned (.tuple #[blk 0 0 0 0 0 0 0, .bool false]) ∧ Below w.heap.size w w' := by
  have c1 := fun W => numeralW_any s W hs
  rw [h] at c1
  have C1 := Lib.hid c1
  clear c1 h
  go_enter Tryd.func36, Tryd.ntmps36
  go_wp2_with (go_at_call 50; refine (C1.out _).mono ?_; rintro e w' ⟨rfl, nq, rfl⟩)
  have hz := Box.new w 66 #[.int .u64 0, .int .u64 0, .int .u64 0, .int .u64 0, .int .u64 0, .int .u64 0, .int .u64 0]
  obtain ⟨k0, k1, k2, k3, k4, k5, k6⟩ := ((show Box ((w.alloc _).drewN nq) w.heap.size 66 _ from hz).put7 (.int .u64 0) (.int .u64 0) (.int .u64 0) (.int .u64 0) (.int .u64 0) (.int .u64 0) (.int .u64 0)).seven
  refine bodyPost_ret (v := .tuple #[.agg #[.int .u64 0, .int .u64 0, .int .u64 0, .int .u64 0, .int .u64 0, .int .u64 0, .int .u64 0], .bool false]) (by simp [results, Tryd.results36, go_sem, k0, k1, k2, k3, k4, k5, k6]; done) rfl ?_
  exact ⟨rfl, below_put7 (below_drewN nq ((Below.refl _ w).alloc (Nat.le_refl _) _)) (Nat.le_refl _) _ _ _ _ _ _ _⟩

set_option maxRecDepth 100000 in
set_option maxHeartbeats 1200000 in
theorem numBlock_yes (s : ByteArray) (w : World) (h : isNum s = true) (hs : s.size ≤ 9223372036854775807) :
    Calls Tryd.prog 36 #[.string s] w fun e w' => (∃ l0 l1 l2 l3 l4 l5 l6, e = .returned (.tuple #[blk l0 l1 l2 l3 l4 l5 l6, .bool true]) ∧ Dig WB [l0, l1, l2, l3, l4, l5, l6] ∧ val WB [l0, l1, l2, l3, l4, l5, l6] = numOf s) ∧ Below w.heap.size w w' := by
  have c1 := fun W => numeralW_any s W hs
  rw [h] at c1
  have C1 := Lib.hid c1
  have H := Lib.hid h
  obtain ⟨hsz, hdg, _⟩ := isNum_parts h
  have Hdg := Lib.hid hdg
  clear c1 h hdg
  go_enter Tryd.func36, Tryd.ntmps36
  go_wp2_with (go_at_call 50; refine (C1.out _).mono ?_; rintro e w' ⟨rfl, nq, rfl⟩)
  go_loopw [5] (fun i wr => ∃ (st a0 a1 a2 a3 a4 a5 a6 : Nat), i = .int .i64 (st : Nat) ∧ st ≤ s.size + 18 ∧ Dig WB [a0, a1, a2, a3, a4, a5, a6] ∧ val WB [a0, a1, a2, a3, a4, a5, a6] = Read.rd (dgt s) (min st s.size) ∧
      Box wr (w.heap.size + 1) 66 #[.int .u64 (a0 : Nat), .int .u64 (a1 : Nat), .int .u64 (a2 : Nat), .int .u64 (a3 : Nat), .int .u64 (a4 : Nat), .int .u64 (a5 : Nat), .int .u64 (a6 : Nat)] ∧
      Box wr w.heap.size 66 #[.int .u64 0, .int .u64 0, .int .u64 0, .int .u64 0, .int .u64 0, .int .u64 0, .int .u64 0] ∧ Below w.heap.size w wr) (fun i _ => (s.size + 18) - (intOf i).toNat)
  case atStart =>
    refine ⟨0, 0, 0, 0, 0, 0, 0, 0, rfl, by omega, ?_, by simp [val, Read.rd, Read.seg], ?_, ?_, ?_⟩
    · intro x hx
      simp only [List.mem_cons, List.not_mem_nil, or_false] at hx
      rcases hx with rfl | rfl | rfl | rfl | rfl | rfl | rfl <;> (unfold WB; omega)
    · have hz : ∀ k : Nat, (((w.alloc (Obj.cells #[.int .u64 0, .int .u64 0, .int .u64 0, .int .u64 0, .int .u64 0, .int .u64 0, .int .u64 0] 66)).drewN k)).heap.size = w.heap.size + 1 := fun k => by show (w.alloc _).heap.size = _; simp
      rw [← hz]
      exact Box.new _ _ _
    · exact (show Box ((w.alloc _).drewN nq) w.heap.size 66 _ from Box.new w 66 #[.int .u64 0, .int .u64 0, .int .u64 0, .int .u64 0, .int .u64 0, .int .u64 0, .int .u64 0]).alloc _
    · exact (below_drewN _ ((Below.refl _ w).alloc (Nat.le_refl _) _)).alloc (by simp) _
  case round =>
    obtain ⟨st, a0, a1, a2, a3, a4, a5, a6, rfl, hst, hdig, hval, hbox, hres, hbel⟩ := hrel
    by_cases hlt : st < s.size
    · have Hval := Lib.hid hval; clear hval
      have Hdig := Lib.hid hdig; clear hdig
      obtain ⟨c0, c1, c2, c3, c4, c5, c6⟩ := hbox.seven
      have Hbox := Lib.hid hbox; clear hbox
      have Hres := Lib.hid hres; clear hres
      have Hbel := Lib.hid hbel; clear hbel
      go_wp2_with fail
      go_loop [6, 7, 8] (fun a b c => ∃ (i ch sc : Nat), a = .int .u64 (ch : Nat) ∧ b = .int .u64 (sc : Nat) ∧ c = .int .i64 (i : Nat) ∧ st ≤ i ∧ i ≤ st + 19 ∧ i ≤ s.size ∧ ch = Read.seg (dgt s) st (i - st) ∧ sc = 10 ^ (i - st)) (fun _ _ c => s.size - (intOf c).toNat)
      case atStart => exact ⟨st, 0, 1, rfl, rfl, rfl, by omega, by omega, by omega, by simp [Read.seg], by simp⟩
      case round =>
        obtain ⟨i, ch, sc, rfl, rfl, rfl, h1, h3, h4, hch, hsc⟩ := hrel
        have Hch := Lib.hid hch; clear hch
        have Hsc := Lib.hid hsc; clear hsc
        by_cases hgo : i < st + 19 ∧ i < s.size
        · obtain ⟨h5, h6⟩ := hgo
          have hb := byt_eq s i h6
          have hd := Hdg.out i h6
          have hst2 : Hid (Read.seg (dgt s) st (i + 1 - st) = 10 * ch + dgt s i) := Lib.hid (by
            rw [show i + 1 - st = (i - st) + 1 by omega, Read.seg, Hch.out, show st + (i - st) = i by omega])
          have hchb : ch < 1000000000000000000 := by
            rw [Hch.out]
            have h7 := Read.seg_lt (dgt s) st (i - st) fun j hj1 hj2 => by have := Hdg.out j (by omega); unfold dgt; omega
            have h8 : (10 : Nat) ^ (i - st) ≤ 10 ^ 18 := Nat.pow_le_pow_right (by omega) (by omega)
            omega
          have hscb : sc ≤ 1000000000000000000 := by
            rw [Hsc.out]
            have h8 : (10 : Nat) ^ (i - st) ≤ 10 ^ 18 := Nat.pow_le_pow_right (by omega) (by omega)
            omega
          have hsc2 : Hid (sc * 10 = 10 ^ (i + 1 - st)) := Lib.hid (by rw [show i + 1 - st = (i - st) + 1 by omega, Nat.pow_succ, Hsc.out])
          have hv : IntKind.u64.wrap (IntKind.u64.wrap ((ch : Int) * 10) + ((s[i].toNat : Int) - 48) % 256) = ((10 * ch + dgt s i : Nat) : Int) := by
            unfold dgt
            simp only [IntKind.wrap_u64]
            omega
          have hw : IntKind.u64.wrap ((sc : Int) * 10) = ((sc * 10 : Nat) : Int) := by
            simp only [IntKind.wrap_u64]
            omega
          have Hv := Lib.hid hv
          have Hw := Lib.hid hw
          clear hb hd hchb hscb hv hw
          go_wp2_with fail
          refine ⟨⟨i + 1, 10 * ch + dgt s i, sc * 10, ?_, ?_, by go_num, by omega, by omega, by omega, hst2.out.symm, hsc2.out⟩, by simp [intOf]; omega⟩
          · rw [Hv.out]
          · rw [Hw.out]
        · have hie : i = min (st + 19) s.size := by omega
          have hm : ¬ (i : Int) < min ((st : Int) + 19) (s.size : Int) := by omega
          have hchb : ch < WB := by
            rw [Hch.out]
            have h7 := Read.seg_lt (dgt s) st (i - st) fun j hj1 hj2 => by have := Hdg.out j (by omega); unfold dgt; omega
            have h8 : (10 : Nat) ^ (i - st) ≤ 10 ^ 19 := Nat.pow_le_pow_right (by omega) (by omega)
            unfold WB
            omega
          have hscb : sc < WB := by
            rw [Hsc.out]
            have h8 : (10 : Nat) ^ (i - st) ≤ 10 ^ 19 := Nat.pow_le_pow_right (by omega) (by omega)
            unfold WB
            omega
          have hjoin : val WB [a0, a1, a2, a3, a4, a5, a6] * sc + ch = Read.rd (dgt s) (min (st + 19) s.size) := by
            rw [Hval.out, Hch.out, Hsc.out, Nat.min_eq_left (Nat.le_of_lt hlt), ← Read.rd_join, ← hie]
            congr 1
            omega
          have c2 := fun W => scaledPlus_any a0 a1 a2 a3 a4 a5 a6 sc ch W Hdig.out hscb hchb (by rw [hjoin]; exact rd_bound H.out _ (Nat.min_le_right _ _))
          rw [hjoin] at c2
          unfold blk at c2
          have C2 := Lib.hid c2
          have Hie := Lib.hid hie
          clear hie hchb hscb hjoin c2 hgo
          go_wp2_with fail
          refine (C2.out _).mono ?_
          rintro e w1 ⟨⟨l0, l1, l2, l3, l4, l5, l6, rfl, hd2, hv2⟩, hb1⟩
          have hbx1 := (Hbox.out.below hb1 Hbox.out.lt).put7 (.int .u64 (l0 : Nat)) (.int .u64 (l1 : Nat)) (.int .u64 (l2 : Nat)) (.int .u64 (l3 : Nat)) (.int .u64 (l4 : Nat)) (.int .u64 (l5 : Nat)) (.int .u64 (l6 : Nat))
          have hbl1 := below_put7 (G := w.heap.size + 1) (Hbel.out.trans (hb1.mono Hbel.out.size)) (Nat.le_succ _) (.int .u64 (l0 : Nat)) (.int .u64 (l1 : Nat)) (.int .u64 (l2 : Nat)) (.int .u64 (l3 : Nat)) (.int .u64 (l4 : Nat)) (.int .u64 (l5 : Nat)) (.int .u64 (l6 : Nat))
          have hbw := below_put7 (G := w.heap.size + 1) (B := w.heap.size + 1) (Below.refl _ w1) (Nat.le_refl _) (.int .u64 (l0 : Nat)) (.int .u64 (l1 : Nat)) (.int .u64 (l2 : Nat)) (.int .u64 (l3 : Nat)) (.int .u64 (l4 : Nat)) (.int .u64 (l5 : Nat)) (.int .u64 (l6 : Nat))
          have hrs1 := (Hres.out.below hb1 Hres.out.lt).below hbw (Nat.lt_succ_self _)
          have hbxw := Hbox.out.below hb1 Hbox.out.lt
          obtain ⟨q0, q1, q2, q3, q4, q5, q6⟩ := hbxw.seven
          have fz := fun i => hbxw.free i
          have g0 := fz 0
          have g1 := fz 1
          have g2 := fz 2
          have g3 := fz 3
          have g4 := fz 4
          have g5 := fz 5
          have g6 := fz 6
          clear fz hbxw
          have Hbx1 := Lib.hid hbx1
          have Hbl1 := Lib.hid hbl1
          have Hrs1 := Lib.hid hrs1
          have Hd2 := Lib.hid hd2
          have Hv2 := Lib.hid hv2
          clear hbx1 hbl1 hbw hrs1 hd2 hv2 hb1
          go_wp2_with fail
          go_roundw
          case rel => exact ⟨st + 19, l0, l1, l2, l3, l4, l5, l6, by go_num, by omega, Hd2.out, Hv2.out, Hbx1.out, Hrs1.out, Hbl1.out⟩
          case measure => simp [intOf]; omega
    · obtain ⟨c0, c1, c2, c3, c4, c5, c6⟩ := hbox.seven
      have hv : val WB [a0, a1, a2, a3, a4, a5, a6] = numOf s := by rw [hval, Nat.min_eq_right (by omega)]; rfl
      have Hv := Lib.hid hv
      have Hdig := Lib.hid hdig
      have Hres := Lib.hid hres
      have Hbel := Lib.hid hbel
      clear hval hv hdig hres hbel hbox
      obtain ⟨q0, q1, q2, q3, q4, q5, q6⟩ := Hres.out.seven
      have g0 := Hres.out.free 0
      have g1 := Hres.out.free 1
      have g2 := Hres.out.free 2
      have g3 := Hres.out.free 3
      have g4 := Hres.out.free 4
      have g5 := Hres.out.free 5
      have g6 := Hres.out.free 6
      go_wp2_with fail
      obtain ⟨k0, k1, k2, k3, k4, k5, k6⟩ := (Hres.out.put7 (.int .u64 (a0 : Nat)) (.int .u64 (a1 : Nat)) (.int .u64 (a2 : Nat)) (.int .u64 (a3 : Nat)) (.int .u64 (a4 : Nat)) (.int .u64 (a5 : Nat)) (.int .u64 (a6 : Nat))).seven
      refine bodyPost_ret (v := .tuple #[.agg #[.int .u64 (a0 : Nat), .int .u64 (a1 : Nat), .int .u64 (a2 : Nat), .int .u64 (a3 : Nat), .int .u64 (a4 : Nat), .int .u64 (a5 : Nat), .int .u64 (a6 : Nat)], .bool true]) (by simp [results, Tryd.results36, go_sem, k0, k1, k2, k3, k4, k5, k6]; done) rfl ?_
      exact ⟨⟨a0, a1, a2, a3, a4, a5, a6, rfl, Hdig.out, Hv.out⟩, below_put7 Hbel.out (Nat.le_refl _) _ _ _ _ _ _ _⟩

end Go.Proofs.YtbcckgofoknmbaaDoor
/-
  The model's reading of a numeral.
-/
namespace Go.Proofs.YtbcckgofoknmbaaDoor
open Go.RowKit Num

theorem most_any (a b : Int) (w : World) : Calls Tryd.prog 32 #[.int .i64 a, .int .i64 b] w fun e w' => e = .returned (.int .i64 (max a b)) ∧ w = w' := by
  by_cases h : b < a
  · have e : max a b = a := by omega
    rw [e]
    go_enter Tryd.func32, Tryd.ntmps32
    go_wp2_with fail
    go_ret
    exact ⟨rfl, rfl⟩
  · have e : max a b = b := by omega
    rw [e]
    go_enter Tryd.func32, Tryd.ntmps32
    go_wp2_with fail
    go_ret
    exact ⟨rfl, rfl⟩

theorem text_step {d : Nat → Nat} {N E st n len : Nat} {pre : List Nat} (h : N = Read.rd d E * 10000 ^ len + val 10000 pre) (hl : pre.length = len) (hst : st = E - 4) (hE : 0 < E) (hn : n = Read.seg d st (E - st)) : N = Read.rd d st * 10000 ^ (len + 1) + val 10000 (pre ++ [n]) := by
  have h1 := Read.rd_join d st (E - st)
  rw [show st + (E - st) = E by omega, ← hn] at h1
  rw [val_snoc, hl, h, h1, Nat.pow_succ]
  by_cases h4 : 4 ≤ E
  · rw [show E - st = 4 by omega, show (10 : Nat) ^ 4 = 10000 from rfl, Nat.add_mul, Nat.mul_assoc, Nat.mul_comm 10000, Nat.mul_comm n]
    omega
  · have h0 : Read.rd d st = 0 := by rw [show st = 0 by omega]; rfl
    rw [h0]
    simp only [Nat.zero_mul, Nat.zero_add]
    rw [Nat.mul_comm]
    omega

set_option maxRecDepth 100000 in
set_option maxHeartbeats 800000 in
theorem fromText_any (s : ByteArray) (w : World) (h : isNum s = true) :
    Calls Tryd.prog 19 #[.string s] w fun e w' => (∃ v, e = .returned v ∧ Nums 3 .i64 10000 w' v (numOf s)) ∧ Below w.heap.size w w' := by
  obtain ⟨i0, hi, hz0, hz1, hz2⟩ := info_parts Tryd.info_int
  obtain ⟨hsz, hdg, _⟩ := isNum_parts h
  have Hdg := Lib.hid hdg
  clear hdg h
  go_enter Tryd.func19, Tryd.ntmps19
  go_wp2_with fail
  go_loopw [3, 4] (fun v t wr => ∃ (len : Nat) (pre : List Nat), t = .int .i64 ((s.size : Int) - 4 * len) ∧ len ≤ 31 ∧ pre.length = len ∧ Dig 10000 pre ∧ numOf s = Read.rd (dgt s) (s.size - 4 * len) * 10000 ^ len + val 10000 pre ∧ wr.ownsRow w.heap.size 3 1 v pre.length (pre.map fun x => .int .i64 (x : Nat)) ∧ Below w.heap.size w wr) (fun _ t _ => (intOf t).toNat)
  case atStart => exact ⟨0, [], by simp, by omega, rfl, (fun x hx => by cases hx), by simp [val, numOf], World.ownsRow_nil _ _ _ _, Below.refl _ _⟩
  case round =>
    obtain ⟨len, pre, rfl, hlen, hpl, hdig, hval, hown, hbel⟩ := hrel
    have Hval := Lib.hid hval; clear hval
    have Hdig := Lib.hid hdig; clear hdig
    have Hpl := Lib.hid hpl; clear hpl
    by_cases h0 : 4 * len < s.size
    · obtain ⟨E, hE⟩ : ∃ E, E = s.size - 4 * len := ⟨_, rfl⟩
      obtain ⟨st, hst⟩ : ∃ st, st = E - 4 := ⟨_, rfl⟩
      have hEi : (s.size : Int) - 4 * (len : Int) = (E : Int) := by omega
      have hmx : max (0 : Int) ((E : Int) - 4) = (st : Int) := by omega
      have hE0 : 0 < E := by omega
      have hEs : E ≤ s.size := by omega
      rw [hEi]
      have C1 : Hid (∀ W, Calls Tryd.prog 32 #[.int .i64 0, .int .i64 ((E : Int) - 4)] W fun e w' => e = .returned (.int .i64 (st : Nat)) ∧ W = w') := Lib.hid fun W => by rw [← hmx]; exact most_any _ _ W
      have HE := Lib.hid hE
      have Hst := Lib.hid hst
      have hstE : st < E := by omega
      have hstE4 : E ≤ st + 4 := by omega
      have Hown := Lib.hid hown
      have Hbel := Lib.hid hbel
      clear hE hst hEi hmx hown hbel
      go_wp2_with (go_at_call 32; refine (C1.out _).mono ?_; rintro e w' ⟨rfl, rfl⟩)
      go_loop [5, 6] (fun a b => ∃ i n : Nat, a = .int .i64 (n : Nat) ∧ b = .int .i64 (i : Nat) ∧ st ≤ i ∧ i ≤ E ∧ n = Read.seg (dgt s) st (i - st)) (fun _ b => E - (intOf b).toNat)
      case atStart => exact ⟨st, 0, rfl, rfl, by omega, by omega, by simp [Read.seg]⟩
      case round =>
        obtain ⟨i, n, rfl, rfl, h1, h2, hn⟩ := hrel
        have hnb : n < 10000 := by
          rw [hn]
          have h7 := Read.seg_lt (dgt s) st (i - st) fun j hj1 hj2 => by have := Hdg.out j (by omega); unfold dgt; omega
          have h8 : (10 : Nat) ^ (i - st) ≤ 10 ^ 4 := Nat.pow_le_pow_right (by omega) (by omega)
          omega
        have Hn := Lib.hid hn; clear hn
        by_cases hi2 : i < E
        · have hlt : i < s.size := by omega
          have hb := byt_eq s i hlt
          have hd := Hdg.out i hlt
          have hseg : Hid (10 * n + dgt s i = Read.seg (dgt s) st (i + 1 - st)) := Lib.hid (by
            rw [show i + 1 - st = (i - st) + 1 by omega, Read.seg, Hn.out, show st + (i - st) = i by omega])
          have hv : (10 : Int) * (n : Int) + ((s[i].toNat : Int) - 48) % 256 = ((10 * n + dgt s i : Nat) : Int) := by unfold dgt; omega
          have Hv := Lib.hid hv
          clear hb hd hv
          go_wp2_with fail
          refine ⟨⟨i + 1, 10 * n + dgt s i, ?_, by go_num, by omega, by omega, hseg.out⟩, by simp [intOf]; omega⟩
          first | rw [Hv.out] | (have := Hv.out; simp only [this]) | (congr 1; have := Hv.out; omega)
        · obtain rfl : i = E := by omega
          have hown := Hown.out
          have hbel := Hbel.out
          go_wp2_with (at_builtin; refine wpList_append_own _ rfl _ _ 34 rfl w.heap.size 3 i0 (.int .i64 0) 1 8 Tryd.underlying34 hi hz0 hz1 hz2 rfl (by decide) _ _ _ rfl (hown.alloc _) ⟨wr.heap.size, 0, none⟩ 1 1 [.int .i64 (n : Nat)] rfl rfl (cell_one_new _ _ _) ?c2 ?c3 ?c4 ?c5 ?_)
          case c2 => first | rfl | (intro u hu; simp at hu; subst hu; rfl)
          case c3 => have := Hpl.out; unfold maxLen; omega
          case c4 => have := Hpl.out; omega
          case c5 => have := hbel.size; simp; omega
          intro v' w1 hown' hgrow _
          have hb1 := below_grown_own hbel hbel.size (Nat.le_refl _) hown hgrow
          have ho1 := own_snoc (y := n) rfl hown'
          have hv := Hval.out
          rw [← HE.out] at hv
          have hnew := text_step hv Hpl.out (E := i) (st := st) (n := n) Hst.out hE0 Hn.out
          have hnb2 : n < 10000 := hnb
          have Hnew := Lib.hid hnew
          have Ho1 := Lib.hid ho1
          have Hb1 := Lib.hid hb1
          clear hown' hgrow hown hbel hnew ho1 hb1 hi2 hv
          go_wp2_with fail
          go_roundw
          case rel => exact ⟨len + 1, pre ++ [n], by have := HE.out; congr 1; omega, by omega, by rw [List.length_append, Hpl.out]; rfl, Hdig.out.snoc hnb2, by rw [show s.size - 4 * (len + 1) = st from by have := HE.out; have := Hst.out; omega]; exact Hnew.out, Ho1.out, Hb1.out⟩
          case measure => have := HE.out; simp [intOf]; omega
    · have hE : s.size - 4 * len = 0 := by omega
      have hv := Hval.out
      rw [hE, show Read.rd (dgt s) 0 = 0 from rfl, Nat.zero_mul, Nat.zero_add] at hv
      have Hv := Lib.hid hv
      have hneg : (s.size : Int) - 4 * (len : Int) ≤ 0 := by omega
      have hrow := rowF_own pre rfl hown
      have C2 := Lib.hid (trim_any _ pre wr Hdig.out hrow)
      obtain ⟨z, hz⟩ : ∃ z : Int, z = (s.size : Int) - 4 * (len : Int) := ⟨_, rfl⟩
      rw [← hz] at hneg ⊢
      clear hE hv hz hrow
      go_wp2_with (go_at_call 33; refine C2.out.mono ?_; rintro e w' ⟨⟨v', rfl, hv'⟩, rfl⟩)
      go_ret
      rw [← Hv.out] at hv'
      exact ⟨⟨_, rfl, hv'⟩, hbel⟩

end Go.Proofs.YtbcckgofoknmbaaDoor
