/-
  Nodes as keys of a map.
-/
import Derived.Test.YtamjfcckgeakfaaDgC
import Derived.Maps.OwnSet
import Derived.Maps.OwnOps
import Derived.DeepKeys4
import Derived.OwnWalk
import Derived.Laws.AppendOwn
import Derived.Maps.AppendAt
namespace Go.Proofs.Ytamjfcckgeakfaa
open Go.RowKit Num

theorem Try.laidOutDg : laidOutB Try.prog = true := by kernel_rfl
theorem Try.rowDg : (86 : TypeId) < Try.prog.types.size := of_decide_eq_true (by kernel_rfl)
theorem Try.wideDg : (match Try.prog.underlying 86 with | some (.array _ _) | some (.struct _) => true | _ => false) = true := by rw [Try.und_Dgn]
set_option maxRecDepth 100000 in
theorem Try.lawDg : WideMaps.KeyLaw Try.prog 86 := deep_law_laid Try.laidOutDg (m := 2) (by omega) Try.rowDg (by kernel_rfl) Try.wideDg
theorem Try.keyedDg : Maps.Keyed Try.prog 86 := Maps.Keyed.of_law Try.lawDg
theorem Try.mapDg : Try.prog.underlying 119 = some (.map 86 3) := by kernel_rfl
theorem Try.zeroIntDg (w : World) : (zeroValue 3).run Try.prog w = .ok (.int .i64 0) w := by kernel_rfl

theorem Try.keyIntDg (m : Nat) (a : Int) (ha : (Lit.int .i64 a).wf = true) : Try.prog.keyLits (m + 1) 3 [.int .i64 a] = some [.int .i64 a] := by simp [Program.keyLits, Try.underlying3, ha]
theorem Try.cellsDgn : Try.prog.cellsOf 86 = 3 := by kernel_rfl
theorem Try.cellsInt : Try.prog.cellsOf 3 = 1 := by kernel_rfl
theorem Try.keyTypeDg : Try.prog.keyType 86 = true := by kernel_rfl
theorem pos_succ {n k : Nat} (h : k < n) : ∃ m, n = m + 1 := ⟨n - 1, by omega⟩
set_option maxRecDepth 100000 in
theorem Try.sizeDg : ∃ m, Try.prog.types.size = m + 1 := pos_succ Try.rowDg

set_option maxRecDepth 100000 in
theorem keyOf_dg (a b c : Int) (ha : (Lit.int .i64 a).wf = true) (hb : (Lit.int .i64 b).wf = true) (hc : (Lit.int .i64 c).wf = true) :
    ∃ l, keyOf Try.prog 86 (.agg #[.int .i64 a, .int .i64 b, .int .i64 c]) = some l := by
  unfold keyOf
  have hfo : (Value.agg #[.int .i64 a, .int .i64 b, .int .i64 c]).formed Try.prog 86 = true := by simp [Value.formed, Try.cellsDgn]
  obtain ⟨m, hm⟩ := Try.sizeDg
  rw [Try.und_Dgn]
  simp only
  rw [Try.keyTypeDg, hfo, hm]
  simp only [Bool.and_self, if_true]
  have hk : Try.prog.keyLits (m + 1 + 1) 86 [.int .i64 a, .int .i64 b, .int .i64 c] = some [.int .i64 a, .int .i64 b, .int .i64 c] := by
    unfold Program.keyLits
    rw [Try.und_Dgn]
    simp only
    have hf := Try.flds_Dgn
    have hall : ∀ fs : Array Go.Field, (fs.toList.map fun f => (f.name, f.type, f.offset)) = [("Level", 3, 0), ("Low", 3, 1), ("High", 3, 2)] → (if [Value.int .i64 a, .int .i64 b, .int .i64 c].length = Try.prog.cellsOf 86 ∧ fs.all (·.name != "_") = true then (fs.toList.mapM fun f => Try.prog.keyLits (m + 1) f.type (([Value.int .i64 a, .int .i64 b, .int .i64 c].drop f.offset).take (Try.prog.cellsOf f.type))).map List.flatten else none) = some [.int .i64 a, .int .i64 b, .int .i64 c] := by
      intro fs hf
      rw [← Array.all_toList]
      generalize fs.toList = l at hf ⊢
      obtain ⟨f0, l, rfl, h0, hf⟩ := List.map_eq_cons_iff.1 hf
      obtain ⟨f1, l, rfl, h1, hf⟩ := List.map_eq_cons_iff.1 hf
      obtain ⟨f2, l, rfl, h2, hf⟩ := List.map_eq_cons_iff.1 hf
      obtain rfl := List.map_eq_nil_iff.1 hf
      simp only [Prod.mk.injEq] at h0 h1 h2
      obtain ⟨n0, t0, o0⟩ := h0
      obtain ⟨n1, t1, o1⟩ := h1
      obtain ⟨n2, t2, o2⟩ := h2
      simp [n0, t0, o0, n1, t1, o1, n2, t2, o2, Try.cellsDgn, Try.cellsInt, Try.keyIntDg, ha, hb, hc]
    exact hall _ hf
  have hcells : (Value.agg #[.int .i64 a, .int .i64 b, .int .i64 c]).cells.toList = [.int .i64 a, .int .i64 b, .int .i64 c] := rfl
  rw [hcells, hk]
  exact ⟨_, rfl⟩

end Go.Proofs.Ytamjfcckgeakfaa
