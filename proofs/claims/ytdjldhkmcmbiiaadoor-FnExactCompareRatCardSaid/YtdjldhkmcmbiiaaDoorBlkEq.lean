/-
  Blocks of seven words compared.
-/
import Derived.Test.YtdjldhkmcmbiiaaDoorBlock
import Derived.Test.YtdjldhkmcmbiiaaDoorPureM
import Derived.DeepKeys
namespace Go.Proofs.YtdjldhkmcmbiiaaDoor
open Go.RowKit Num

theorem Tryd.plain_u64 : Tryd.prog.plainKey 94 = true := by kernel_rfl
theorem Tryd.cells_u64 : Tryd.prog.cellsOf 94 = 1 := by kernel_rfl

theorem eq_item (xs ys : Array Value) (i : Nat) (is : List Nat) (a b : Nat) (hx : xs[i]? = some (.int .u64 (a : Nat))) (hy : ys[i]? = some (.int .u64 (b : Nat))) (W : World) :
    (Op.eqItems 9999 94 1 xs ys (i :: is)).run Tryd.prog W = if a = b then (Op.eqItems 9999 94 1 xs ys is).run Tryd.prog W else .ok false W := by
  have h1 := run_part_plain (P := Tryd.prog) (w := W) (e := 94) Tryd.plain_u64 (xs := xs) (off := i) hx
  have h2 := run_part_plain (P := Tryd.prog) (w := W) (e := 94) Tryd.plain_u64 (xs := ys) (off := i) hy
  have h3 := run_equalIn_int (P := Tryd.prog) (w := W) 9998 94 .u64 .u64 (a : Int) (b : Int) Tryd.underlying94
  simp only [Op.eqItems, Sem.run_bind, Nat.mul_one, h1, h2, h3, Result.andThen_ok]
  by_cases h : a = b
  · subst h; simp
  · have : ((a : Int) == (b : Int)) = false := by rw [beq_eq_false_iff_ne]; omega
    simp [this, h]

theorem blk_equal (a0 a1 a2 a3 a4 a5 a6 b0 b1 b2 b3 b4 b5 b6 : Nat) (W : World) : (Op.equalIn 10000 102 (blk a0 a1 a2 a3 a4 a5 a6) (blk b0 b1 b2 b3 b4 b5 b6)).run Tryd.prog W = .ok (decide ([a0, a1, a2, a3, a4, a5, a6] = [b0, b1, b2, b3, b4, b5, b6])) W := by
  unfold blk
  obtain ⟨i0, hi, _, _, _⟩ := info_parts Tryd.info_u64
  rw [run_equalIn_array (P := Tryd.prog) (w := W) 9999 (t := 102) (e := 94) (n := 7) _ _ Tryd.underlying102 hi, Tryd.cells_u64, show List.range 7 = [0, 1, 2, 3, 4, 5, 6] from rfl]
  rw [eq_item _ _ 0 _ a0 b0 rfl rfl, eq_item _ _ 1 _ a1 b1 rfl rfl, eq_item _ _ 2 _ a2 b2 rfl rfl, eq_item _ _ 3 _ a3 b3 rfl rfl, eq_item _ _ 4 _ a4 b4 rfl rfl, eq_item _ _ 5 _ a5 b5 rfl rfl, eq_item _ _ 6 _ a6 b6 rfl rfl]
  by_cases h0 : a0 = b0
  · by_cases h1 : a1 = b1
    · by_cases h2 : a2 = b2
      · by_cases h3 : a3 = b3
        · by_cases h4 : a4 = b4
          · by_cases h5 : a5 = b5
            · by_cases h6 : a6 = b6
              · simp [*, Op.eqItems]
              · simp [*]
            · simp [*]
          · simp [*]
        · simp [*]
      · simp [*]
    · simp [*]
  · simp [*]

/-- Equal blocks are equal numbers. -/
theorem blk_val (xs ys : List Nat) (hx : Dig WB xs) (hy : Dig WB ys) (hl : xs.length = ys.length) : decide (xs = ys) = decide (val WB xs = val WB ys) := by
  rw [decide_eq_decide]
  exact ⟨fun h => by rw [h], fun h => by
    have h1 := getD_vals xs ys hx hy hl h
    exact h1⟩
where
  getD_vals (xs ys : List Nat) (hx : Dig WB xs) (hy : Dig WB ys) (hl : xs.length = ys.length) (h : val WB xs = val WB ys) : xs = ys := by
    exact val_inj WB xs ys hx hy hl h

theorem blk_eql (a0 a1 a2 a3 a4 a5 a6 b0 b1 b2 b3 b4 b5 b6 : Nat) (r : Bool) (hr : r = decide ([a0, a1, a2, a3, a4, a5, a6] = [b0, b1, b2, b3, b4, b5, b6])) (W : World) : (binOp .eql 102 (blk a0 a1 a2 a3 a4 a5 a6) (blk b0 b1 b2 b3 b4 b5 b6)).run Tryd.prog W = .ok (.bool r) W := by
  have h := blk_equal a0 a1 a2 a3 a4 a5 a6 b0 b1 b2 b3 b4 b5 b6 W
  unfold blk at h ⊢
  rw [run_eql_struct, h, hr]
  rfl

theorem blk_neq (a0 a1 a2 a3 a4 a5 a6 b0 b1 b2 b3 b4 b5 b6 : Nat) (r : Bool) (hr : r = decide ([a0, a1, a2, a3, a4, a5, a6] = [b0, b1, b2, b3, b4, b5, b6])) (W : World) : (binOp .neq 102 (blk a0 a1 a2 a3 a4 a5 a6) (blk b0 b1 b2 b3 b4 b5 b6)).run Tryd.prog W = .ok (.bool !r) W := by
  have h := blk_equal a0 a1 a2 a3 a4 a5 a6 b0 b1 b2 b3 b4 b5 b6 W
  unfold blk at h ⊢
  rw [run_neq_struct, h, hr]
  rfl
end Go.Proofs.YtdjldhkmcmbiiaaDoor
