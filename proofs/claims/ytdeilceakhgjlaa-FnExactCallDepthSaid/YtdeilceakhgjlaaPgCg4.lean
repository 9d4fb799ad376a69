/-
  Lists of ints: a copy, membership on both sides, and the program's calledBy.
-/
import Derived.Test.YtdeilceakhgjlaaPgCg3
namespace Go.Proofs.Ytdeilceakhgjlaa
open Go.RowKit Num

/-- As OutT, but empty it may be a slice without elements, too. -/
def OutE (lo : Nat) (w : World) (v : Value) (xs : List Int) : Prop := OutT lo w v xs ∨ (xs = [] ∧ ∃ g, v = .slice (some ⟨g, 0, none⟩) 0 0)
theorem OutE.open {lo : Nat} {w : World} {v : Value} {xs : List Int} (h : OutE lo w v xs) : ∃ A c, v = .slice A xs.length c ∧ LsAt lo w A xs := by
  rcases h with h | ⟨rfl, g, rfl⟩
  · obtain ⟨A, c, h1, _, h2⟩ := h.open
    exact ⟨A, c, h1, h2⟩
  · exact ⟨_, 0, rfl, fun h => absurd h (Nat.lt_irrefl 0)⟩
theorem OutE.below {lo B : Nat} {w w' : World} {v : Value} {xs : List Int} (h : OutE lo w v xs) (hb : Below B w w') (hB : w.heap.size ≤ B) : OutE lo w' v xs := h.imp (fun k => k.below hb hB) id
theorem OutE.low {lo lo' : Nat} {w : World} {v : Value} {xs : List Int} (h : OutE lo w v xs) (hl : lo' ≤ lo) : OutE lo' w v xs := h.imp (fun k => k.low hl) id

set_option maxRecDepth 100000 in
set_option maxHeartbeats 6400000 in
/-- Into an empty list that is not nil. -/
theorem putEmp_any (g : Nat) (v : Int) (w : World) :
    Calls Try.prog 53 #[.slice (some ⟨g, 0, none⟩) 0 0, .int .i64 v] w fun e w' => ∃ A1 c1, e = .returned (.slice A1 1 c1) ∧ w'.ownsRow w.heap.size 3 1 (.slice A1 1 c1) 1 (cellsL [v]) ∧ Below w.heap.size w w' := by
  obtain ⟨i0, ji, jz0, jz1, jz2⟩ := info_three Try.infoInt3
  have hX : (w.alloc (.cells #[] 3)).ownsRow w.heap.size 3 1 (.slice (some ⟨w.heap.size, 0, none⟩) 0 0) 0 [] :=
    ⟨rfl, .inr ⟨w.heap.size, 0, #[], rfl, Nat.le_refl _, heap_alloc_new w _, Nat.le_refl _, by unfold maxLen; omega, rfl, rfl⟩⟩
  have hB := (Below.refl w.heap.size w).alloc (Nat.le_refl _) (.cells #[] 3)
  go_enter Try.func53, Try.ntmps53
  go_wp2_with fail
  go_loopg [5] 0 (fun q kv wr => kv = .int .i64 0 ∧ w = wr)
  case atStart => exact ⟨rfl, rfl⟩
  case round =>
    obtain ⟨rfl, rfl⟩ := hrel
    go_upto_region 7 with (at_builtin; refine wpList_append_own _ rfl _ _ 26 rfl w.heap.size 3 i0 (.int .i64 0) 1 8 Try.underlying26 ji jz0 jz1 jz2 rfl (by decide) _ 0 [] rfl hX ⟨g, 0, none⟩ 0 0 [] rfl rfl (fun j u hu => by cases hu) (fun u hu => by cases hu) (by unfold maxLen; omega) (by omega) (by simp) ?_; intro v6 w6 hown6 hgrow6 _; have hB6 := hB.grown hgrow6 (by simp) (fun r hr => (hX.lt r hr).1))
    go_upto_region 8 with (at_builtin; refine wpList_append_own _ rfl _ _ 26 rfl w.heap.size 3 i0 (.int .i64 0) 1 8 Try.underlying26 ji jz0 jz1 jz2 rfl (by decide) _ 0 _ rfl (hown6.alloc _) ⟨w6.heap.size, 0, none⟩ 1 1 [.int .i64 v] rfl rfl (cell_one_new _ _ _) (one_int _ _) (by unfold maxLen; omega) (by omega) (by have := hB6.size; simp; omega) ?_; intro v7 w7 hown7 hgrow7 _; have hB7 := (hB6.alloc hB6.size _).grown hgrow7 (by have := hB6.size; simp; omega) (fun r hr => (hown6.lt r hr).1))
    go_wp2_with (at_builtin; refine wpList_append_own _ rfl _ _ 26 rfl w.heap.size 3 i0 (.int .i64 0) 1 8 Try.underlying26 ji jz0 jz1 jz2 rfl (by decide) _ (0 + 1) _ rfl hown7 ⟨g, 0, none⟩ 0 0 [] rfl rfl (fun j u hu => by cases hu) (fun u hu => by cases hu) (by unfold maxLen; omega) (by omega) (by have := hB7.size; omega) ?_; intro v8 w8 hown8 hgrow8 _; have hB8 := hB7.grown hgrow8 (by have := hB7.size; omega) (fun r hr => (hown7.lt r hr).1))
    go_ret
    rcases hown8.2 with ⟨_, h0⟩ | ⟨g, cap, cur, rfl, h5⟩
    · omega
    · exact ⟨_, cap, rfl, hown8, hB8⟩

/-- A number is put into the list. -/
theorem putE_any (lo : Nat) (u : Nat → Bool) (K v : Nat) (xv : Value) (w : World) (hv : v < K) (hK : K ≤ 100) (hlo : lo ≤ w.heap.size) (h : OutE lo w xv (ups u K)) :
    Calls Try.prog 53 #[xv, .int .i64 (v : Nat)] w fun e w' => ∃ xv', e = .returned xv' ∧ OutE lo w' xv' (ups (setU u v) K) ∧ Below w.heap.size w w' := by
  rcases h with h | ⟨h0, g, rfl⟩
  · refine (put_own lo u K v xv w hv hK hlo h).mono ?_
    rintro e w' ⟨xv', rfl, h1, h2⟩
    exact ⟨_, rfl, .inl h1, h2⟩
  · have hs := ups_split u hv
    rw [h0] at hs
    have hz : ups u v = [] ∧ tops u v K = [] := by
      have := hs.symm
      simp only [List.append_eq_nil_iff] at this
      exact ⟨this.1, this.2.2⟩
    have he : ups (setU u v) K = [(v : Int)] := by rw [ups_set u hv, hz.1, hz.2]; rfl
    rw [he]
    refine (putEmp_any g (v : Int) w).mono ?_
    rintro e w' ⟨A1, c1, rfl, ho, hb⟩
    exact ⟨_, rfl, .inl ((OutT.of_own ho (by omega)).low hlo), hb⟩

/-- Nothing is appended: the list itself. -/
theorem wpList_append_zero {P : Program} (w : World) {ops : Array Oper} {rest : List Oper} {o : Oper} {a : Act} {Q : Exit → Act → World → Prop} (hgd : o.guard = none) (s x : Operand) (t : TypeId)
    (ho : o.op = .call { callee := .builtin .append, args := #[s, x], argTypes := #[t, t] }) (e : TypeId) (i : TypeInfo) (ht : P.underlying t = some (.slice e)) (hi : P.info? e = some i)
    (ao : Option Addr) (l c : Nat) (xv : Value) (hs : a.eval s = .slice ao l c) (hle : l ≤ c) (hx : a.eval x = xv) (hsrc : Src P i.size t xv 0 [] w) (h : wpList P ops Q rest (a.put o.dst (.slice ao l c)) w) : wpList P ops Q (o :: rest) a w := by
  refine wpList_plain hgd fun K hK => ?_
  have hrun := run_append_nothing (P := P) w t t o.type e i ht hi ao l c hle xv hsrc
  unfold Oper.wp
  simp [execOp, ho, resolve, invoke, builtin, hs, hx, hrun, Result.andThen]
  exact hK _ _ h
theorem src_zero {P : Program} {w : World} {size : Nat} {tx e' : TypeId} (hk : P.underlying tx = some (.slice e')) (a : Addr) (c : Nat) : Src P size tx (.slice (some a) 0 c) 0 [] w :=
  Src.ofSlice w hk a 0 c [] (by simp) (fun j u hu => by cases hu) (fun u hu => by cases hu)

set_option maxRecDepth 100000 in
set_option maxHeartbeats 6400000 in
/-- The model's copy. -/
theorem own1_any (lo : Nat) (v : Value) (xs : List Int) (w : World) (hl : xs.length ≤ 100000) (h : OutE lo w v xs) :
    Calls Try.prog 52 #[v] w fun e w' => ∃ v', e = .returned v' ∧ OutE w.heap.size w' v' xs ∧ Below w.heap.size w w' := by
  obtain ⟨i0, ji, jz0, jz1, jz2⟩ := info_three Try.infoInt3
  have hX : (w.alloc (.cells #[] 3)).ownsRow w.heap.size 3 1 (.slice (some ⟨w.heap.size, 0, none⟩) 0 0) 0 [] :=
    ⟨rfl, .inr ⟨w.heap.size, 0, #[], rfl, Nat.le_refl _, heap_alloc_new w _, Nat.le_refl _, by unfold maxLen; omega, rfl, rfl⟩⟩
  have hB := (Below.refl w.heap.size w).alloc (Nat.le_refl _) (.cells #[] 3)
  rcases h with (⟨rfl, rfl⟩ | ⟨hpos, h⟩) | ⟨rfl, g, rfl⟩
  · go_enter Try.func52, Try.ntmps52
    go_wp2_with (at_builtin; refine wpList_append_none _ rfl _ _ 26 rfl 3 i0 Try.underlying26 ji (some ⟨w.heap.size, 0, none⟩) 0 0 rfl (Nat.le_refl _) rfl ?_)
    go_ret
    exact ⟨_, rfl, .inr ⟨rfl, _, rfl⟩, hB⟩
  · obtain ⟨A, c, rfl, hc, hls⟩ := OutT.open (.inr ⟨hpos, h⟩)
    obtain ⟨b, off, rfl, hs, _⟩ := hls hpos
    have hcells := hls.cells
    have hlt := hs.lt
    go_enter Try.func52, Try.ntmps52
    go_wp2_with (at_builtin; refine wpList_append_own _ rfl _ _ 26 rfl w.heap.size 3 i0 (.int .i64 0) 1 8 Try.underlying26 ji jz0 jz1 jz2 rfl (by decide) _ 0 [] rfl hX ⟨b, off, none⟩ xs.length c (cellsL xs) rfl (by rw [cellsL, List.length_map]; omega) (fun j u hu => by rw [addr_add]; exact (hB.cell (p := ⟨b, off + j, none⟩) hlt).trans (hcells j u hu)) (one_cellsL xs) (by unfold maxLen; omega) (by omega) (by simp) ?_; intro v6 w6 hown6 hgrow6 _; have hB6 := hB.grown hgrow6 (by simp) (fun r hr => (hX.lt r hr).1))
    go_ret
    rw [Nat.zero_add, List.nil_append] at hown6
    exact ⟨_, rfl, .inl (.inr ⟨hpos, hown6⟩), hB6⟩
  · go_enter Try.func52, Try.ntmps52
    go_wp2_with (at_builtin; refine wpList_append_zero _ rfl _ _ 26 rfl 3 i0 Try.underlying26 ji (some ⟨w.heap.size, 0, none⟩) 0 0 _ rfl (Nat.le_refl _) rfl (src_zero Try.underlying26 _ _) ?_)
    go_ret
    exact ⟨_, rfl, .inr ⟨rfl, _, rfl⟩, hB⟩

set_option maxRecDepth 100000 in
set_option maxHeartbeats 3200000 in
/-- Is the number there: the model. -/
theorem has1_any (lo c : Nat) (A0 : Option Addr) (n : Nat) (f : Nat → Int) (z : Int) (w : World) (hn : n ≤ 1048576) (h : IntsAt lo w A0 n f) :
    Calls Try.prog 54 #[.slice A0 n c, .int .i64 z] w (Yn (∃ j, j < n ∧ f j = z) w) := by
  have H := Lib.hid h
  clear h
  go_enter Try.func54, Try.ntmps54
  go_wp2_with fail
  go_loopg [9] n (fun q iv wr => ∃ k : Nat, k + q = n ∧ iv = .int .i64 (k : Nat) ∧ Hid (∀ j, j < k → f j ≠ z) ∧ w = wr)
  case atStart => exact ⟨0, by omega, rfl, Lib.hid fun j h => by omega, rfl⟩
  case round =>
    obtain ⟨k, hk, rfl, hq, rfl⟩ := hrel
    by_cases hk0 : k < n
    · obtain ⟨b, off, rfl, hb, r0⟩ := H.out.at_ hk0
      cases he : (f k == z) with
      | true =>
        have HE := Lib.hid (eq_of_beq he)
        go_wp2_with fail
        go_ret
        exact Yn.yes ⟨k, hk0, HE.out⟩ (Below.refl _ _)
      | false =>
        have HE : Hid (f k ≠ z) := Lib.hid (by simpa using he)
        go_wp2_with fail
        go_roundg (gk - 1)
        case rel => exact ⟨k + 1, by omega, by go_num, Lib.hid fun j hj => by
          by_cases hjk : j < k
          · exact hq.out j hjk
          · obtain rfl : j = k := by omega
            exact HE.out, rfl⟩
        case measure => omega
    · obtain rfl : k = n := by omega
      go_wp2_with fail
      go_ret
      exact Yn.no (fun ⟨j, hj, e⟩ => hq.out j hj e) (Below.refl _ _)

set_option maxRecDepth 100000 in
set_option maxHeartbeats 3200000 in
theorem index_any (lo c : Nat) (A0 : Option Addr) (n : Nat) (f : Nat → Int) (z : Int) (w : World) (hn : n ≤ 1048576) (h : IntsAt lo w A0 n f) :
    Calls Try.prog 84 #[.slice A0 n c, .int .i64 z] w fun e w' => (∃ i : Int, e = .returned (.int .i64 i) ∧ Hid (0 ≤ i ↔ ∃ j, j < n ∧ f j = z)) ∧ w = w' := by
  have H := Lib.hid h
  clear h
  go_enter Try.func84, Try.ntmps84
  go_wp2_with fail
  go_loopg [8] n (fun q iv wr => ∃ k : Nat, k + q = n ∧ iv = .int .i64 (k : Nat) ∧ Hid (∀ j, j < k → f j ≠ z) ∧ w = wr)
  case atStart => exact ⟨0, by omega, rfl, Lib.hid fun j h => by omega, rfl⟩
  case round =>
    obtain ⟨k, hk, rfl, hq, rfl⟩ := hrel
    by_cases hk0 : k < n
    · obtain ⟨b, off, rfl, hb, r0⟩ := H.out.at_ hk0
      cases he : (z == f k) with
      | true =>
        have HE : Hid (z = f k) := Lib.hid (eq_of_beq he)
        go_wp2_with fail
        go_ret
        exact ⟨⟨_, rfl, Lib.hid ⟨fun _ => ⟨k, hk0, HE.out.symm⟩, fun _ => by omega⟩⟩, rfl⟩
      | false =>
        have HE : Hid (z ≠ f k) := Lib.hid (by simpa using he)
        go_wp2_with fail
        go_roundg (gk - 1)
        case rel => exact ⟨k + 1, by omega, by go_num, Lib.hid fun j hj => by
          by_cases hjk : j < k
          · exact hq.out j hjk
          · obtain rfl : j = k := by omega
            exact HE.out.symm, rfl⟩
        case measure => omega
    · obtain rfl : k = n := by omega
      go_wp2_with fail
      go_ret
      exact ⟨⟨_, rfl, Lib.hid ⟨fun h => by omega, fun ⟨j, hj, e⟩ => absurd e (hq.out j hj)⟩⟩, rfl⟩

set_option maxRecDepth 100000 in
set_option maxHeartbeats 3200000 in
/-- Is the number there: the program. -/
theorem contains_any (lo c : Nat) (A0 : Option Addr) (n : Nat) (f : Nat → Int) (z : Int) (w : World) (hn : n ≤ 1048576) (h : IntsAt lo w A0 n f) :
    Calls Try.prog 55 #[.slice A0 n c, .int .i64 z] w (Yn (∃ j, j < n ∧ f j = z) w) := by
  have C := Lib.hid (index_any lo c A0 n f z w hn h)
  clear h
  go_enter Try.func55, Try.ntmps55
  go_wp2_with (go_at_call 84; refine C.out.mono ?_; rintro e w1 ⟨⟨i, rfl, hi⟩, rfl⟩)
  go_ret
  exact ⟨_, rfl, Lib.hid (by rw [decide_eq_true_iff]; exact hi.out), Below.refl _ _⟩

/-- The lists of all callers, one behind the other. -/
def flP (P : Prg) (xs : List Int) : List Int := xs.flatMap fun q => ups (gr P q.toNat) 3
theorem flP_nil (P : Prg) : flP P [] = [] := rfl
theorem flP_snoc (P : Prg) (xs : List Int) (z : Int) : flP P (xs ++ [z]) = flP P xs ++ ups (gr P z.toNat) 3 := by
  rw [flP, List.flatMap_append, ← flP]
  simp
theorem flP_le (P : Prg) (xs : List Int) : (flP P xs).length ≤ 3 * xs.length := by
  induction xs with
  | nil => exact Nat.le_refl _
  | cons x xs ih =>
    have h1 := ups_le (gr P x.toNat) 3
    have h2 : flP P (x :: xs) = ups (gr P x.toNat) 3 ++ flP P xs := rfl
    rw [h2, List.length_append, List.length_cons]
    omega
theorem take_snoc {xs : List Int} {k : Nat} (h : k < xs.length) : xs.take (k + 1) = xs.take k ++ [xs.getD k 0] := by
  rw [List.take_succ_eq_append_getElem h, List.getD, List.getElem?_eq_getElem h]; rfl

set_option maxRecDepth 100000 in
set_option maxHeartbeats 6400000 in
/-- All that the callers call. -/
theorem calledBy_any (lo lo2 c : Nat) (P : Prg) (gv : Value) (A1 : Option Addr) (xs : List Int) (w : World) (hl : xs.length ≤ 1000) (hx : ∀ z ∈ xs, 0 ≤ z ∧ z < (P.np : Int) + 1) (h : GrAt lo w gv P) (hi : LsAt lo2 w A1 xs) :
    Calls Try.prog 56 #[gv, .slice A1 xs.length c] w fun e w' => ∃ v, e = .returned v ∧ OutT w.heap.size w' v (flP P xs) ∧ Below w.heap.size w w' := by
  obtain ⟨i0, ji, jz0, jz1, jz2⟩ := info_three Try.infoInt3
  have H := Lib.hid h
  have HI := Lib.hid hi
  have HX := Lib.hid hx
  obtain ⟨n, hn⟩ : ∃ n, n = xs.length := ⟨_, rfl⟩
  rw [← hn] at hl ⊢
  have HN := Lib.hid hn
  clear h hi hx hn
  go_enter Try.func56, Try.ntmps56
  go_wp2_with fail
  go_loopg [5, 10] n (fun q lv iv wr => ∃ (k m : Nat) (ys : List Int), k + q = n ∧ iv = .int .i64 (k : Nat) ∧ Hid (ys = flP P (xs.take k)) ∧ Hid (m = ys.length ∧ m ≤ 3 * k) ∧ OutT w.heap.size wr lv ys ∧ Below w.heap.size w wr)
  case atStart => exact ⟨0, 0, [], by omega, rfl, Lib.hid rfl, Lib.hid ⟨rfl, Nat.le_refl _⟩, .inl ⟨rfl, rfl⟩, Below.refl _ _⟩
  case round =>
    obtain ⟨k, m, ys, hk, rfl, hy, hm, hou, hbel⟩ := hrel
    have hm3 := hm.out.2
    by_cases hk0 : k < n
    · obtain ⟨b, off, rfl, hb, r0⟩ := (IntsAt.below HI.out hbel (Nat.le_refl _)).at_ (show k < xs.length by rw [← HN.out]; exact hk0)
      have hz := HX.out (xs.getD k 0) (by
        have hkx : k < xs.length := by rw [← HN.out]; exact hk0
        rw [List.getD, List.getElem?_eq_getElem hkx]; exact List.getElem_mem hkx)
      obtain ⟨q, hq⟩ : ∃ q : Nat, xs.getD k 0 = (q : Int) := ⟨(xs.getD k 0).toNat, by omega⟩
      have hqp : q < P.np + 1 := by omega
      have hqi : (q : Int) < ((P.np + 1 : Nat) : Int) := by omega
      have HY : Hid (flP P (xs.take (k + 1)) = ys ++ ups (gr P q) 3) := Lib.hid (by rw [take_snoc (by rw [← HN.out]; exact hk0), flP_snoc, hq, Int.toNat_natCast, ← hy.out])
      rw [hq] at r0
      obtain ⟨g, cap, A, c9, rfl, hg, s0, hrow⟩ := (H.out.below hbel (Nat.le_refl _)).row hqp
      have hown := hou.own hm.out.1
      have hsz := hbel.size
      have hrl := ups_le (gr P q) 3
      clear hq hz
      by_cases h0 : ups (gr P q) 3 = []
      · rw [h0] at s0 hrow HY
        have hrow2 : A = none ∧ c9 = 0 := by
          rcases hrow with ⟨_, e⟩ | ⟨e, _⟩
          · simp only [List.length_nil] at e
            injection e with e1 e2 e3
            exact ⟨e1, e3⟩
          · exact absurd e (Nat.lt_irrefl 0)
        obtain ⟨rfl, rfl⟩ := hrow2
        obtain ⟨A7, c7, rfl, hc7, _⟩ := hou.open
        simp only [List.length_nil] at s0
        rw [← hm.out.1] at hou hc7 ⊢
        clear h0 hown
        go_wp2_with (at_builtin; refine wpList_append_none _ rfl _ _ 26 rfl 3 i0 Try.underlying26 ji A7 m c7 rfl hc7 rfl ?_)
        go_roundg (gk - 1)
        case rel => exact ⟨k + 1, m, ys, by omega, by go_num, Lib.hid (by rw [HY.out, List.append_nil]), Lib.hid ⟨hm.out.1, by omega⟩, hou, hbel⟩
        case measure => omega
      · have hpos : 0 < (ups (gr P q) 3).length := List.length_pos_iff.2 h0
        obtain ⟨A8, c8, e8, hc8, hls⟩ := hrow.open
        injection e8 with e1 _ e3
        subst e1 e3
        obtain ⟨b8, off8, rfl, hs8, _⟩ := hls hpos
        have hcells := hls.cells
        have hlt := hs8.lt
        obtain ⟨rl, hrl2⟩ : ∃ rl, rl = (ups (gr P q) 3).length := ⟨_, rfl⟩
        rw [← hrl2] at s0 hrl hpos
        have HRL := Lib.hid hrl2
        clear hrl2 h0 hrow
        go_wp2_with (at_builtin; refine wpList_append_own _ rfl _ _ 26 rfl w.heap.size 3 i0 (.int .i64 0) 1 8 Try.underlying26 ji jz0 jz1 jz2 rfl (by decide) _ m (cellsL ys) rfl hown ⟨b8, off8, none⟩ rl c9 (cellsL (ups (gr P q) 3)) rfl (by rw [cellsL, List.length_map, HRL.out]; omega) (fun j u hu => by rw [addr_add]; exact hcells j u hu) (one_cellsL _) (by unfold maxLen; omega) (by omega) hsz ?_; intro v6 w6 hown6 hgrow6 _)
        go_roundg (gk - 1)
        case rel =>
          refine ⟨k + 1, m + rl, ys ++ ups (gr P q) 3, by omega, by go_num, Lib.hid HY.out.symm, Lib.hid ⟨by rw [List.length_append, ← hm.out.1, ← HRL.out], by omega⟩, OutT.of_own (by rw [cellsL_app]; exact hown6) (by omega), hbel.grown hgrow6 hsz (fun r hr => (hown.lt r hr).1)⟩
        case measure => omega
    · obtain rfl : k = n := by omega
      go_wp2_with fail
      go_ret
      exact ⟨_, rfl, by rw [hy.out, HN.out, List.take_length] at hou; exact hou, hbel⟩

end Go.Proofs.Ytdeilceakhgjlaa
