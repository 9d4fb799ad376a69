/-
  Nodes as keys of a map.
-/
import Derived.Test.YtmobcahfalaaeaaDoorDgC
import Derived.Maps.OwnSet
import Derived.Maps.OwnOps
import Derived.DeepKeys4
import Derived.OwnWalk
import Derived.Laws.AppendOwn
import Derived.Maps.AppendAt
namespace Go.Proofs.YtmobcahfalaaeaaDoor
open Go.RowKit Num

theorem Tryd.laidOutDg : laidOutB Tryd.prog = true := by kernel_rfl
theorem Tryd.rowDg : (62 : TypeId) < Tryd.prog.types.size := of_decide_eq_true (by kernel_rfl)
theorem Tryd.wideDg : (match Tryd.prog.underlying 62 with | some (.array _ _) | some (.struct _) => true | _ => false) = true := by rw [Tryd.und_Dgn]
set_option maxRecDepth 100000 in
theorem Tryd.lawDg : WideMaps.KeyLaw Tryd.prog 62 := deep_law_laid Tryd.laidOutDg (m := 2) (by omega) Tryd.rowDg (by kernel_rfl) Tryd.wideDg
theorem Tryd.keyedDg : Maps.Keyed Tryd.prog 62 := Maps.Keyed.of_law Tryd.lawDg
theorem Tryd.mapDg : Tryd.prog.underlying 79 = some (.map 62 3) := by kernel_rfl
theorem Tryd.zeroIntDg (w : World) : (zeroValue 3).run Tryd.prog w = .ok (.int .i64 0) w := by kernel_rfl

theorem Tryd.keyIntDg (m : Nat) (a : Int) (ha : (Lit.int .i64 a).wf = true) : Tryd.prog.keyLits (m + 1) 3 [.int .i64 a] = some [.int .i64 a] := by simp [Program.keyLits, Tryd.underlying3, ha]
theorem Tryd.cellsDgn : Tryd.prog.cellsOf 62 = 3 := by kernel_rfl
theorem Tryd.cellsInt : Tryd.prog.cellsOf 3 = 1 := by kernel_rfl
theorem Tryd.keyTypeDg : Tryd.prog.keyType 62 = true := by kernel_rfl
theorem pos_succ {n k : Nat} (h : k < n) : ∃ m, n = m + 1 := ⟨n - 1, by omega⟩
set_option maxRecDepth 100000 in
theorem Tryd.sizeDg : ∃ m, Tryd.prog.types.size = m + 1 := pos_succ Tryd.rowDg

set_option maxRecDepth 100000 in
theorem keyOf_dg (a b c : Int) (ha : (Lit.int .i64 a).wf = true) (hb : (Lit.int .i64 b).wf = true) (hc : (Lit.int .i64 c).wf = true) :
    ∃ l, keyOf Tryd.prog 62 (.agg #[.int .i64 a, .int .i64 b, .int .i64 c]) = some l := by
  unfold keyOf
  have hfo : (Value.agg #[.int .i64 a, .int .i64 b, .int .i64 c]).formed Tryd.prog 62 = true := by simp [Value.formed, Tryd.cellsDgn]
  obtain ⟨m, hm⟩ := Tryd.sizeDg
  rw [Tryd.und_Dgn]
  simp only
  rw [Tryd.keyTypeDg, hfo, hm]
  simp only [Bool.and_self, if_true]
  have hk : Tryd.prog.keyLits (m + 1 + 1) 62 [.int .i64 a, .int .i64 b, .int .i64 c] = some [.int .i64 a, .int .i64 b, .int .i64 c] := by
    unfold Program.keyLits
    rw [Tryd.und_Dgn]
    simp only
    have hf := Tryd.flds_Dgn
    have hall : ∀ fs : Array Go.Field, (fs.toList.map fun f => (f.name, f.type, f.offset)) = [("Level", 3, 0), ("Low", 3, 1), ("High", 3, 2)] → (if [Value.int .i64 a, .int .i64 b, .int .i64 c].length = Tryd.prog.cellsOf 62 ∧ fs.all (·.name != "_") = true then (fs.toList.mapM fun f => Tryd.prog.keyLits (m + 1) f.type (([Value.int .i64 a, .int .i64 b, .int .i64 c].drop f.offset).take (Tryd.prog.cellsOf f.type))).map List.flatten else none) = some [.int .i64 a, .int .i64 b, .int .i64 c] := by
      intro fs hf
      rw [← Array.all_toList]
      generalize fs.toList = l at hf ⊢
      obtain ⟨f0, l, rfl, h0, hf⟩ := List.map_eq_cons_iff.1 hf
      obtain ⟨f1, l, rfl, h1, hf⟩ := List.map_eq_cons_iff.1 hf
      obtain ⟨f2, l, rfl, h2, hf⟩ := List.map_eq_cons_iff.1 hf
      obtain rfl := List.map_eq_nil_iff.1 hf
      simp only [Prod.mk.injEq] at h0 h1 h2
      obtain ⟨n0, t0, o0⟩ := h0
      obtain ⟨n1, t1, o1⟩ := h1
      obtain ⟨n2, t2, o2⟩ := h2
      simp [n0, t0, o0, n1, t1, o1, n2, t2, o2, Tryd.cellsDgn, Tryd.cellsInt, Tryd.keyIntDg, ha, hb, hc]
    exact hall _ hf
  have hcells : (Value.agg #[.int .i64 a, .int .i64 b, .int .i64 c]).cells.toList = [.int .i64 a, .int .i64 b, .int .i64 c] := rfl
  rw [hcells, hk]
  exact ⟨_, rfl⟩

end Go.Proofs.YtmobcahfalaaeaaDoor
