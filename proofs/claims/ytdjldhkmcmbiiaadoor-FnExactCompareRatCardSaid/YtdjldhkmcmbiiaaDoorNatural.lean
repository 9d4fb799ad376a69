/-
  The program's block as a number.
-/
import Derived.Test.YtdjldhkmcmbiiaaDoorCopyW
import Derived.Test.YtdjldhkmcmbiiaaDoorBlock
namespace Go.Proofs.YtdjldhkmcmbiiaaDoor
open Go.RowKit Num

set_option maxRecDepth 100000 in
set_option maxHeartbeats 800000 in
theorem clone_row (b off m ca : Nat) (zs : List Nat) (w : World) (hl : zs.length = m) (hc : ∀ j, j < m → w.cell? ⟨b, off + j, none⟩ = some (.int .u64 (zs.getD j 0 : Nat))) (hb : b < w.heap.size) (hmb : m ≤ 1099511627776) :
    Calls Tryd.prog 118 #[.slice (some ⟨b, off, none⟩) m ca] w fun e w' => (∃ v, e = .returned v ∧ RowF 94 .u64 w' v m fun j => zs.getD j 0) ∧ Below w.heap.size w w' := by
  obtain ⟨i0, hi, hz0, hz1, hz2⟩ := info_parts Tryd.info_u64p
  have hA : ∀ j u, (cellsOf .u64 (fun j => zs.getD j 0) m)[j]? = some u → (w.alloc (.cells #[] 94)).cell? ((⟨b, off, none⟩ : Addr).add j) = some u := fun j u hu => by
    obtain ⟨hj, rfl⟩ := cellsOf_get hu
    have e : (⟨b, off, none⟩ : Addr).add j = ⟨b, off + j, none⟩ := by unfold Addr.add; split <;> simp_all
    rw [e, World.cell?_alloc_lt w _ _ hb]
    exact hc j hj
  have hone : ∀ u ∈ cellsOf .u64 (fun j => zs.getD j 0) m, u.oneCell' = true := fun u hu => by
    obtain ⟨j, hj⟩ := List.getElem?_of_mem hu
    obtain ⟨_, rfl⟩ := cellsOf_get hj
    rfl
  have hlit : (w.alloc (.cells #[] 94)).ownsRow w.heap.size 94 1 (.slice (some ⟨w.heap.size, 0, none⟩) 0 0) 0 [] := World.ownsRow_lit w #[] 0 (Nat.le_refl _) (by unfold maxLen; omega) (by simp)
  have HA := Lib.hid hA
  have Hone := Lib.hid hone
  have Hlit := Lib.hid hlit
  have Hl := Lib.hid hl
  have hm : 0 + m ≤ maxLen := by unfold maxLen; omega
  clear hA hone hlit hc hl
  have hnil : ∀ W, (binOp .eql 45 (.slice (some ⟨b, off, none⟩) m ca) (.slice none 0 0)).run Tryd.prog W = .ok (.bool false) W := fun W => by
    have := Lib.run_eql_slice_nil (P := Tryd.prog) (w := W) (t := 45) (e := 94) (a := some ⟨b, off, none⟩) (n := m) (c := ca) (n' := 0) (c' := 0) (h := Tryd.underlying45)
    exact this
  go_enter Tryd.func118, Tryd.ntmps118
  go_wp2_with (at_builtin; refine wpList_append_own _ rfl _ _ 45 rfl w.heap.size 94 i0 (.int .u64 0) 1 8 Tryd.underlying45 hi hz0 hz1 hz2 rfl (by omega) _ 0 _ rfl Hlit.out ⟨b, off, none⟩ m ca (cellsOf .u64 (fun j => zs.getD j 0) m) rfl (by simp [cellsOf]) HA.out Hone.out hm (by omega) (by simp) ?_; intro v1 w1 hown1 hgrow1 _)
  go_ret
  have hb1 := built_below hgrow1
  rw [List.nil_append, Nat.zero_add] at hown1
  have e1 : cellsOf .u64 (fun j => zs.getD j 0) m = zs.map fun x => Value.int .u64 (x : Nat) := by
    apply List.ext_getElem
    · simp [cellsOf, Hl.out]
    · intro i h1 h2
      simp only [cellsOf, List.getElem_map, List.getElem_range]
      have h3 : i < zs.length := by simpa using h2
      rw [getD_eq _ _ h3]
  rw [e1] at hown1
  exact ⟨⟨_, rfl, rowF_own zs Hl.out hown1⟩, hb1⟩

set_option maxRecDepth 100000 in
set_option maxHeartbeats 1600000 in
theorem natural_any (a0 a1 a2 a3 a4 a5 a6 : Nat) (w : World) (hd : Dig WB [a0, a1, a2, a3, a4, a5, a6]) :
    Calls Tryd.prog 81 #[blk a0 a1 a2 a3 a4 a5 a6] w fun e w' => (∃ v, e = .returned v ∧ Nums 94 .u64 WB w' v (val WB [a0, a1, a2, a3, a4, a5, a6])) ∧ Below w.heap.size w w' := by
  unfold blk
  obtain ⟨xs, hxs⟩ : ∃ xs, xs = [a0, a1, a2, a3, a4, a5, a6] := ⟨_, rfl⟩
  have hbox := Box.new w 102 #[.int .u64 (a0 : Nat), .int .u64 (a1 : Nat), .int .u64 (a2 : Nat), .int .u64 (a3 : Nat), .int .u64 (a4 : Nat), .int .u64 (a5 : Nat), .int .u64 (a6 : Nat)]
  have hcell : ∀ j, j < 7 → (w.alloc (.cells #[.int .u64 (a0 : Nat), .int .u64 (a1 : Nat), .int .u64 (a2 : Nat), .int .u64 (a3 : Nat), .int .u64 (a4 : Nat), .int .u64 (a5 : Nat), .int .u64 (a6 : Nat)] 102)).cell? ⟨w.heap.size, 0 + j, none⟩ = some (.int .u64 (xs.getD j 0 : Nat)) := fun j hj => by
    rw [hxs, Nat.zero_add, hbox.cell j]
    match j, hj with
    | 0, _ => rfl
    | 1, _ => rfl
    | 2, _ => rfl
    | 3, _ => rfl
    | 4, _ => rfl
    | 5, _ => rfl
    | 6, _ => rfl
  rw [← hxs] at hd ⊢
  have hl7 : xs.length = 7 := by rw [hxs]; rfl
  obtain ⟨m, hm, hz, hnz⟩ := top_nonzero (fun j => xs.getD j 0) 7
  have hst := strip WB WB_two xs hd m (by omega) (fun j hj hmj => by rw [← getD_eq _ _ hj]; exact hz j hmj (by omega)) (fun h0 => by rw [← getD_eq _ _ (by omega)]; exact hnz h0)
  have hln : ln WB (val WB xs) = m := by rw [ln, ← hst, List.length_take]; omega
  have C1 := Lib.hid (trimW_row w.heap.size 0 7 7 m _ _ (Nat.le_refl _) (by unfold maxLen; omega) hm hcell hz hnz)
  have C2 := Lib.hid (clone_row w.heap.size 0 m 7 (digs WB (val WB xs)) (w.alloc (.cells #[.int .u64 (a0 : Nat), .int .u64 (a1 : Nat), .int .u64 (a2 : Nat), .int .u64 (a3 : Nat), .int .u64 (a4 : Nat), .int .u64 (a5 : Nat), .int .u64 (a6 : Nat)] 102)) (by rw [length_digs, hln]) (fun j hj => by
    rw [hcell j (by omega), ← hst]
    congr 3
    rw [List.getD_eq_getElem?_getD, List.getD_eq_getElem?_getD, List.getElem?_take, if_pos hj]) hbox.lt (by omega))
  have Hln := Lib.hid hln
  clear hbox hcell hz hnz hst hln hd hl7 hxs
  go_enter Tryd.func81, Tryd.ntmps81
  go_wp2_with fail
  refine C1.out.mono ?_
  rintro e w' ⟨rfl, rfl⟩
  go_wp2_with fail
  refine C2.out.mono ?_
  rintro e w1 ⟨⟨v, rfl, hv⟩, hb1⟩
  have hv' : Nums 94 .u64 WB w1 v (val WB xs) := by unfold Nums; rw [Hln.out]; exact hv
  have Hv := Lib.hid hv'
  have Hb1 := Lib.hid hb1
  clear hv hv' hb1
  go_wp2_with fail
  go_ret
  exact ⟨⟨_, rfl, Hv.out⟩, ((Below.refl _ w).alloc (Nat.le_refl _) _).trans (Hb1.out.mono (by simp))⟩

end Go.Proofs.YtdjldhkmcmbiiaaDoor
