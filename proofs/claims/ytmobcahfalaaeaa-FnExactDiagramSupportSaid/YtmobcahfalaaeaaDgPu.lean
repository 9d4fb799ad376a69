/-
  The model's insertion into a rising list of ints.
-/
import Derived.Test.YtmobcahfalaaeaaPgMk3
import Derived.Test.YtmobcahfalaaeaaDgV
import Derived.Laws.AppendOwn
import Derived.Maps.AppendAt
import Derived.RangeFuncBox
import Derived.Deep.Upon
namespace Go.Proofs.Ytmobcahfalaaeaa
open Go.RowKit Num

theorem info_three {t : TypeId} {z : Value} {s b : Nat} (h : (Try.prog.info? t).map (fun i => (i.zero, i.size, i.bytes)) = some (some z, s, b)) : ∃ i, Try.prog.info? t = some i ∧ i.zero = some z ∧ i.size = s ∧ i.bytes = b := by
  obtain ⟨i, hi, hzz⟩ := Option.map_eq_some_iff.1 h
  simp only [Prod.mk.injEq] at hzz
  exact ⟨i, hi, hzz.1, hzz.2.1, hzz.2.2⟩

theorem own_keeps {w w' : World} {B base size : Nat} {e : TypeId} {v : Value} {n : Nat} {xs : List Value} (h : w.ownsRow base e size v n xs) (hb : Below B w w') (hB : w.heap.size ≤ B) : w'.ownsRow base e size v n xs := by
  refine ⟨h.1, ?_⟩
  rcases h.2 with h2 | ⟨b, cap, cur, rfl, h3, h4, h5⟩
  · exact .inl h2
  · exact .inr ⟨b, cap, cur, rfl, h3, (hb.block b (Nat.lt_of_lt_of_le (heap_lt h4) hB)).trans h4, h5⟩



theorem Try.infoInt3 : (Try.prog.info? 3).map (fun i => (i.zero, i.size, i.bytes)) = some (some (.int .i64 0), 1, 8) := by kernel_rfl

/-- Nothing is appended: a nil list. -/
theorem wpList_append_none {P : Program} (w : World) {ops : Array Oper} {rest : List Oper} {o : Oper} {a : Act} {Q : Exit → Act → World → Prop} (hgd : o.guard = none) (s x : Operand) (t : TypeId)
    (ho : o.op = .call { callee := .builtin .append, args := #[s, x], argTypes := #[t, t] }) (e : TypeId) (i : TypeInfo) (ht : P.underlying t = some (.slice e)) (hi : P.info? e = some i)
    (ao : Option Addr) (l c : Nat) (hs : a.eval s = .slice ao l c) (hle : l ≤ c) (hx : a.eval x = .slice none 0 0) (h : wpList P ops Q rest (a.put o.dst (.slice ao l c)) w) : wpList P ops Q (o :: rest) a w := by
  refine wpList_plain hgd fun K hK => ?_
  have hrun := run_append_nothing (P := P) w t t o.type e i ht hi ao l c hle (.slice none 0 0) (Src.ofNil _ ht 0)
  unfold Oper.wp
  simp [execOp, ho, resolve, invoke, builtin, hs, hx, hrun, Result.andThen]
  exact hK _ _ h

/-- A list of ints reads as a list. -/
def LsAt (lo : Nat) (w : World) (A : Option Addr) (xs : List Int) : Prop := IntsAt lo w A xs.length (fun j => xs.getD j 0)
def cellsL (xs : List Int) : List Value := xs.map (fun z => .int .i64 z)
theorem cellsL_app (xs ys : List Int) : cellsL (xs ++ ys) = cellsL xs ++ cellsL ys := List.map_append
theorem one_cellsL (xs : List Int) : ∀ u ∈ cellsL xs, u.oneCell' = true := by
  intro u hu
  simp only [cellsL, List.mem_map] at hu
  obtain ⟨z, _, rfl⟩ := hu
  rfl
theorem LsAt.of_own {w : World} {base n cap : Nat} {g : Option Addr} {xs : List Int} (h : w.ownsRow base 3 1 (.slice g n cap) n (cellsL xs)) : n = xs.length ∧ LsAt base w g xs := by
  have hl : n = xs.length := by have := h.1; simp only [cellsL, List.length_map] at this; omega
  refine ⟨hl, fun h0 => ?_⟩
  rcases h.2 with ⟨e, h2⟩ | ⟨b, cap', cur, e, h3, h4, h5, h6, h7, h8⟩
  · omega
  · injection e with e1 e2 e3
    subst e1
    have hx : Box w b 3 cur := h4
    refine ⟨b, 0, rfl, ⟨h3, heap_lt h4, fun _ => hx.free⟩, fun j hj => ?_⟩
    rw [Nat.zero_add, hx.cell, ← Array.getElem?_toList]
    have h9 := congrArg (fun l : List Value => l[j]?) h8
    simp only [List.getElem?_take, Nat.mul_one, if_pos (show j < n by omega)] at h9
    rw [h9, cellsL, List.getElem?_map, List.getElem?_eq_getElem hj]
    simp [List.getD, List.getElem?_eq_getElem hj]
theorem LsAt.cells {lo : Nat} {w : World} {b off : Nat} {xs : List Int} (h : LsAt lo w (some ⟨b, off, none⟩) xs) : ∀ j u, (cellsL xs)[j]? = some u → w.cell? ⟨b, off + j, none⟩ = some u := by
  intro j u hu
  simp only [cellsL, List.getElem?_map, Option.map_eq_some_iff] at hu
  obtain ⟨z, hz, rfl⟩ := hu
  have hj : j < xs.length := by
    rcases Nat.lt_or_ge j xs.length with h | h
    · exact h
    · rw [List.getElem?_eq_none h] at hz; cases hz
  obtain ⟨b', off', e, _, hc⟩ := h (by omega)
  injection e with e
  injection e with e1 e2 _
  subst e1 e2
  rw [hc j hj]
  simp [List.getD, hz]

set_option maxRecDepth 100000 in
set_option maxHeartbeats 3200000 in
theorem putHas_f (A0 : Option Addr) (c n p : Nat) (f : Nat → Int) (v : Int) (w : World) (hn : n ≤ 100000) (hpn : p < n) (hy : ∀ j, j < p → f j < v) (hv : f p = v) (h : ∀ j, j < n → ∃ b off, A0 = some ⟨b, off, none⟩ ∧ w.cell? ⟨b, off + j, none⟩ = some (.int .i64 (f j))) :
    Calls Try.prog 61 #[.slice A0 n c, .int .i64 v] w fun e w' => e = .returned (.slice A0 n c) ∧ w = w' := by
  have H := Lib.hid h
  have HY := Lib.hid hy
  have HV := Lib.hid hv
  clear h hy hv
  go_enter Try.func61, Try.ntmps61
  go_wp2_with fail
  go_loopg [5] p (fun q kv wr => ∃ k : Nat, k + q = p ∧ kv = .int .i64 (k : Nat) ∧ w = wr)
  case atStart => exact ⟨0, by omega, rfl, rfl⟩
  case round =>
    obtain ⟨k, hk, rfl, rfl⟩ := hrel
    obtain ⟨b, off, rfl, r0⟩ := H.out k (by omega)
    have dk : decide ((k : Int) < (n : Int)) = true := decide_eq_true (by omega)
    have dkn : decide (k < n) = true := decide_eq_true (by omega)
    by_cases hk0 : k < p
    · have dv : decide (f k < v) = true := decide_eq_true (HY.out k hk0)
      go_wp2_with fail
      go_roundg (gk - 1)
      case rel => exact ⟨k + 1, by omega, by go_num, rfl⟩
      case measure => omega
    · obtain rfl : k = p := by omega
      rw [HV.out] at r0
      have dv : decide (v < v) = false := decide_eq_false (Int.lt_irrefl v)
      have de : (v == v) = true := beq_self_eq_true v
      go_wp2_with fail
      go_ret
      exact ⟨rfl, rfl⟩

/-- The number is there. -/
theorem putHas_any (lo : Nat) (A0 : Option Addr) (c n : Nat) (ys zs : List Int) (v : Int) (w : World) (hl : n ≤ 100000) (hn : n = (ys ++ v :: zs).length) (hy : ∀ y ∈ ys, y < v) (h : LsAt lo w A0 (ys ++ v :: zs)) :
    Calls Try.prog 61 #[.slice A0 n c, .int .i64 v] w fun e w' => e = .returned (.slice A0 n c) ∧ w = w' := by
  refine putHas_f A0 c n ys.length (fun j => (ys ++ v :: zs).getD j 0) v w hl (by rw [hn]; simp) (fun j hj => ?_) ?_ (fun j hj => ?_)
  · show (ys ++ v :: zs).getD j 0 < v
    rw [List.getD, List.getElem?_append_left hj, List.getElem?_eq_getElem hj]
    exact hy _ (List.getElem_mem hj)
  · show (ys ++ v :: zs).getD ys.length 0 = v
    rw [List.getD, List.getElem?_append_right (Nat.le_refl _)]
    simp
  · obtain ⟨b, off, e, hb, hc⟩ := h.at_ (show j < (ys ++ v :: zs).length by omega)
    exact ⟨b, off, e, hc⟩

theorem addr_add (b off j : Nat) : (⟨b, off, none⟩ : Addr).add j = ⟨b, off + j, none⟩ := by
  unfold Addr.add
  split
  · rename_i h
    simp
  · rfl

set_option maxRecDepth 100000 in
set_option maxHeartbeats 6400000 in
/-- It is not there, and the list is not nil: the walk. -/
theorem putNew_f (b off c n p : Nat) (f : Nat → Int) (xs zs : List Int) (v : Int) (w : World) (hb : b < w.heap.size) (hn0 : 0 < n) (hn : n ≤ 1000) (hnc : n ≤ c) (hpn : p ≤ n) (hlx : xs.length = p) (hlz : zs.length = n - p) (hy : ∀ j, j < p → f j < v) (hz : p < n → v < f p) (h : ∀ j, j < n → w.cell? ⟨b, off + j, none⟩ = some (.int .i64 (f j)))
    (hxs : ∀ j u, (cellsL xs)[j]? = some u → w.cell? ⟨b, off + j, none⟩ = some u) (hzs : ∀ j u, (cellsL zs)[j]? = some u → w.cell? ⟨b, off + p + j, none⟩ = some u) :
    Calls Try.prog 61 #[.slice (some ⟨b, off, none⟩) n c, .int .i64 v] w fun e w' => ∃ A1 c1, e = .returned (.slice A1 (n + 1) c1) ∧ w'.ownsRow w.heap.size 3 1 (.slice A1 (n + 1) c1) (n + 1) (cellsL (xs ++ v :: zs)) ∧ Below w.heap.size w w' := by
  obtain ⟨i0, ji, jz0, jz1, jz2⟩ := info_three Try.infoInt3
  have H := Lib.hid h
  have HY := Lib.hid hy
  have HZ := Lib.hid hz
  have HXS := Lib.hid hxs
  have HZS := Lib.hid hzs
  clear h hy hz hxs hzs
  have hX : (w.alloc (.cells #[] 3)).ownsRow w.heap.size 3 1 (.slice (some ⟨w.heap.size, 0, none⟩) 0 0) 0 [] :=
    ⟨rfl, .inr ⟨w.heap.size, 0, #[], rfl, Nat.le_refl _, heap_alloc_new w _, Nat.le_refl _, by unfold maxLen; omega, rfl, rfl⟩⟩
  have hB := (Below.refl w.heap.size w).alloc (Nat.le_refl _) (.cells #[] 3)
  go_enter Try.func61, Try.ntmps61
  go_wp2_with fail
  go_loopg [5] p (fun q kv wr => ∃ k : Nat, k + q = p ∧ kv = .int .i64 (k : Nat) ∧ w = wr)
  case atStart => exact ⟨0, by omega, rfl, rfl⟩
  case round =>
    obtain ⟨k, hk, rfl, rfl⟩ := hrel
    by_cases hk0 : k < p
    · have r0 := H.out k (by omega)
      have dk : decide ((k : Int) < (n : Int)) = true := decide_eq_true (by omega)
      have dkn : decide (k < n) = true := decide_eq_true (by omega)
      have dv : decide (f k < v) = true := decide_eq_true (HY.out k hk0)
      go_wp2_with fail
      go_roundg (gk - 1)
      case rel => exact ⟨k + 1, by omega, by go_num, rfl⟩
      case measure => omega
    · obtain rfl : k = p := by omega
      by_cases hkn : k < n
      · have r0 := H.out k hkn
        have dk : decide ((k : Int) < (n : Int)) = true := decide_eq_true (by omega)
        have dkn : decide (k < n) = true := decide_eq_true (by omega)
        have dv : decide (f k < v) = false := decide_eq_false (by have := HZ.out hkn; omega)
        have de : (f k == v) = false := beq_eq_false_iff_ne.2 (by have := HZ.out hkn; omega)
        have s1 : (k : Int) ≤ (n : Int) := by omega
        have s2 : (k : Int) ≤ (c : Int) := by omega
        have s3 : ¬ (c = 0) := by omega
        have s4 : ¬ (c = k) := by omega
        go_upto_region 7 with (at_builtin; refine wpList_append_own _ rfl _ _ 44 rfl w.heap.size 3 i0 (.int .i64 0) 1 8 Try.underlying44 ji jz0 jz1 jz2 rfl (by decide) _ 0 [] rfl hX ⟨b, off, none⟩ k c (cellsL xs) rfl (by rw [cellsL, List.length_map]; omega) (fun j u hu => by rw [addr_add]; exact (hB.cell (p := ⟨b, off + j, none⟩) hb).trans (HXS.out j u hu)) (one_cellsL xs) (by unfold maxLen; omega) (by omega) (by simp) ?_; intro v6 w6 hown6 hgrow6 _; have hB6 := hB.grown hgrow6 (by simp) (fun r hr => (hX.lt r hr).1))
        go_upto_region 8 with (at_builtin; refine wpList_append_own _ rfl _ _ 44 rfl w.heap.size 3 i0 (.int .i64 0) 1 8 Try.underlying44 ji jz0 jz1 jz2 rfl (by decide) _ (0 + k) _ rfl (hown6.alloc _) ⟨w6.heap.size, 0, none⟩ 1 1 [.int .i64 v] rfl rfl (cell_one_new _ _ _) (one_int _ _) (by unfold maxLen; omega) (by omega) (by have := hB6.size; simp; omega) ?_; intro v7 w7 hown7 hgrow7 _; have hB7 := (hB6.alloc hB6.size _).grown hgrow7 (by have := hB6.size; simp; omega) (fun r hr => (hown6.lt r hr).1))
        go_wp2_with (at_builtin; refine wpList_append_own _ rfl _ _ 44 rfl w.heap.size 3 i0 (.int .i64 0) 1 8 Try.underlying44 ji jz0 jz1 jz2 rfl (by decide) _ (0 + k + 1) _ rfl hown7 ⟨b, off + k, none⟩ (n - k) (c - k) (cellsL zs) rfl (by rw [cellsL, List.length_map]; omega) (fun j u hu => by rw [addr_add]; exact (hB7.cell (p := ⟨b, off + k + j, none⟩) hb).trans (HZS.out j u hu)) (one_cellsL zs) (by unfold maxLen; omega) (by omega) (by have := hB7.size; omega) ?_; intro v8 w8 hown8 hgrow8 _; have hB8 := hB7.grown hgrow8 (by have := hB7.size; omega) (fun r hr => (hown7.lt r hr).1))
        go_ret
        rw [show 0 + k + 1 + (n - k) = n + 1 by omega] at hown8
        have hcl : cellsL (xs ++ v :: zs) = [] ++ cellsL xs ++ [Value.int .i64 v] ++ cellsL zs := by simp [cellsL]
        rcases hown8.2 with ⟨_, h0⟩ | ⟨g, cap, cur, rfl, h5⟩
        · omega
        · exact ⟨_, cap, rfl, by rw [hcl]; exact hown8, hB8⟩
      · obtain rfl : k = n := by omega
        have dk : decide ((k : Int) < (k : Int)) = false := decide_eq_false (by omega)
        have dkn : decide (k < k) = false := decide_eq_false (by omega)
        have s1 : (k : Int) ≤ (c : Int) := by omega
        have s3 : ¬ (c = 0) := by omega
        by_cases hck : c = k
        · subst hck
          have hz0 : zs = [] := List.length_eq_zero_iff.1 (by omega)
          subst hz0
          clear hlz
          go_upto_region 7 with (at_builtin; refine wpList_append_own _ rfl _ _ 44 rfl w.heap.size 3 i0 (.int .i64 0) 1 8 Try.underlying44 ji jz0 jz1 jz2 rfl (by decide) _ 0 [] rfl hX ⟨b, off, none⟩ c c (cellsL xs) rfl (by rw [cellsL, List.length_map]; omega) (fun j u hu => by rw [addr_add]; exact (hB.cell (p := ⟨b, off + j, none⟩) hb).trans (HXS.out j u hu)) (one_cellsL xs) (by unfold maxLen; omega) (by omega) (by simp) ?_; intro v6 w6 hown6 hgrow6 _; have hB6 := hB.grown hgrow6 (by simp) (fun r hr => (hX.lt r hr).1))
          go_upto_region 8 with (at_builtin; refine wpList_append_own _ rfl _ _ 44 rfl w.heap.size 3 i0 (.int .i64 0) 1 8 Try.underlying44 ji jz0 jz1 jz2 rfl (by decide) _ (0 + c) _ rfl (hown6.alloc _) ⟨w6.heap.size, 0, none⟩ 1 1 [.int .i64 v] rfl rfl (cell_one_new _ _ _) (one_int _ _) (by unfold maxLen; omega) (by omega) (by have := hB6.size; simp; omega) ?_; intro v7 w7 hown7 hgrow7 _; have hB7 := (hB6.alloc hB6.size _).grown hgrow7 (by have := hB6.size; simp; omega) (fun r hr => (hown6.lt r hr).1))
          go_wp2_with (at_builtin; refine wpList_append_own _ rfl _ _ 44 rfl w.heap.size 3 i0 (.int .i64 0) 1 8 Try.underlying44 ji jz0 jz1 jz2 rfl (by decide) _ (0 + c + 1) _ rfl hown7 ⟨b, off, none⟩ 0 0 [] rfl rfl (fun j u hu => by cases hu) (fun u hu => by cases hu) (by unfold maxLen; omega) (by omega) (by have := hB7.size; omega) ?_; intro v8 w8 hown8 hgrow8 _; have hB8 := hB7.grown hgrow8 (by have := hB7.size; omega) (fun r hr => (hown7.lt r hr).1))
          go_ret
          rw [show 0 + c + 1 + 0 = c + 1 by omega] at hown8
          have hcl : cellsL (xs ++ [v]) = [] ++ cellsL xs ++ [Value.int .i64 v] ++ [] := by simp [cellsL]
          rcases hown8.2 with ⟨_, h0⟩ | ⟨g, cap, cur, rfl, h5⟩
          · omega
          · exact ⟨_, cap, rfl, by rw [hcl]; exact hown8, hB8⟩
        · have s4 : ¬ (c = k) := hck
          have hz0 : zs = [] := List.length_eq_zero_iff.1 (by omega)
          subst hz0
          clear hlz
          go_upto_region 7 with (at_builtin; refine wpList_append_own _ rfl _ _ 44 rfl w.heap.size 3 i0 (.int .i64 0) 1 8 Try.underlying44 ji jz0 jz1 jz2 rfl (by decide) _ 0 [] rfl hX ⟨b, off, none⟩ k c (cellsL xs) rfl (by rw [cellsL, List.length_map]; omega) (fun j u hu => by rw [addr_add]; exact (hB.cell (p := ⟨b, off + j, none⟩) hb).trans (HXS.out j u hu)) (one_cellsL xs) (by unfold maxLen; omega) (by omega) (by simp) ?_; intro v6 w6 hown6 hgrow6 _; have hB6 := hB.grown hgrow6 (by simp) (fun r hr => (hX.lt r hr).1))
          go_upto_region 8 with (at_builtin; refine wpList_append_own _ rfl _ _ 44 rfl w.heap.size 3 i0 (.int .i64 0) 1 8 Try.underlying44 ji jz0 jz1 jz2 rfl (by decide) _ (0 + k) _ rfl (hown6.alloc _) ⟨w6.heap.size, 0, none⟩ 1 1 [.int .i64 v] rfl rfl (cell_one_new _ _ _) (one_int _ _) (by unfold maxLen; omega) (by omega) (by have := hB6.size; simp; omega) ?_; intro v7 w7 hown7 hgrow7 _; have hB7 := (hB6.alloc hB6.size _).grown hgrow7 (by have := hB6.size; simp; omega) (fun r hr => (hown6.lt r hr).1))
          go_wp2_with (at_builtin; refine wpList_append_own _ rfl _ _ 44 rfl w.heap.size 3 i0 (.int .i64 0) 1 8 Try.underlying44 ji jz0 jz1 jz2 rfl (by decide) _ (0 + k + 1) _ rfl hown7 ⟨b, off + k, none⟩ 0 (c - k) [] rfl rfl (fun j u hu => by cases hu) (fun u hu => by cases hu) (by unfold maxLen; omega) (by omega) (by have := hB7.size; omega) ?_; intro v8 w8 hown8 hgrow8 _; have hB8 := hB7.grown hgrow8 (by have := hB7.size; omega) (fun r hr => (hown7.lt r hr).1))
          go_ret
          rw [show 0 + k + 1 + 0 = k + 1 by omega] at hown8
          have hcl : cellsL (xs ++ [v]) = [] ++ cellsL xs ++ [Value.int .i64 v] ++ [] := by simp [cellsL]
          rcases hown8.2 with ⟨_, h0⟩ | ⟨g, cap, cur, rfl, h5⟩
          · omega
          · exact ⟨_, cap, rfl, by rw [hcl]; exact hown8, hB8⟩

set_option maxRecDepth 100000 in
set_option maxHeartbeats 6400000 in
/-- Into a nil list. -/
theorem putNil_any (v : Int) (w : World) :
    Calls Try.prog 61 #[.slice none 0 0, .int .i64 v] w fun e w' => ∃ A1 c1, e = .returned (.slice A1 1 c1) ∧ w'.ownsRow w.heap.size 3 1 (.slice A1 1 c1) 1 (cellsL [v]) ∧ Below w.heap.size w w' := by
  obtain ⟨i0, ji, jz0, jz1, jz2⟩ := info_three Try.infoInt3
  have hX : (w.alloc (.cells #[] 3)).ownsRow w.heap.size 3 1 (.slice (some ⟨w.heap.size, 0, none⟩) 0 0) 0 [] :=
    ⟨rfl, .inr ⟨w.heap.size, 0, #[], rfl, Nat.le_refl _, heap_alloc_new w _, Nat.le_refl _, by unfold maxLen; omega, rfl, rfl⟩⟩
  have hB := (Below.refl w.heap.size w).alloc (Nat.le_refl _) (.cells #[] 3)
  go_enter Try.func61, Try.ntmps61
  go_wp2_with fail
  go_loopg [5] 0 (fun q kv wr => kv = .int .i64 0 ∧ w = wr)
  case atStart => exact ⟨rfl, rfl⟩
  case round =>
    obtain ⟨rfl, rfl⟩ := hrel
    go_upto_region 7 with (at_builtin; refine wpList_append_none _ rfl _ _ 44 rfl 3 i0 Try.underlying44 ji (some ⟨w.heap.size, 0, none⟩) 0 0 rfl (Nat.le_refl _) rfl ?_)
    go_upto_region 8 with (at_builtin; refine wpList_append_own _ rfl _ _ 44 rfl w.heap.size 3 i0 (.int .i64 0) 1 8 Try.underlying44 ji jz0 jz1 jz2 rfl (by decide) _ 0 _ rfl (hX.alloc _) ⟨w.heap.size + 1, 0, none⟩ 1 1 [.int .i64 v] rfl rfl (fun j u hu => by have := cell_one_new (w.alloc (.cells #[] 3)) (.int .i64 v) 3 j u hu; rwa [show (w.alloc (.cells #[] 3)).heap.size = w.heap.size + 1 by simp] at this) (one_int _ _) (by unfold maxLen; omega) (by omega) (by simp; omega) ?_; intro v7 w7 hown7 hgrow7 _; have hB7 := (hB.alloc hB.size _).grown hgrow7 (by have := hB.size; simp; omega) (fun r hr => (hX.lt r hr).1))
    rcases hown7.2 with ⟨_, h0⟩ | ⟨g, cap, cur, rfl, h5⟩
    · omega
    · go_wp2_with (at_builtin; refine wpList_append_none _ rfl _ _ 44 rfl 3 i0 Try.underlying44 ji (some ⟨g, 0, none⟩) (0 + 1) cap rfl h5.2.2.1 rfl ?_)
      go_ret
      exact ⟨_, cap, rfl, hown7, hB7⟩

end Go.Proofs.Ytmobcahfalaaeaa
