/-
  The graph of the calls: the model's and the program's. (Written by gen_pgcg3.py.)
-/
import Derived.Test.YtdeilceakhgjlaaPgCg2
import Derived.Test.YtdeilceakhgjlaaPgVi
namespace Go.Proofs.Ytdeilceakhgjlaa
open Go.RowKit Num

/-- Later lists lie in later blocks. -/
def Rising (xs : List Value) : Prop := ∀ (i j : Nat) (x y : Value) (bx bz : Nat), i < j → xs[i]? = some x → xs[j]? = some y → x.ownBlock = some bx → y.ownBlock = some bz → bx < bz
theorem Rising.nil : Rising [] := fun _ _ _ _ _ _ _ h => by simp at h
theorem Rising.snoc {xs : List Value} {y : Value} {B : Nat} (h : Rising xs) (h1 : ∀ (i : Nat) x bx, xs[i]? = some x → x.ownBlock = some bx → bx < B) (h2 : ∀ b, y.ownBlock = some b → B ≤ b) : Rising (xs ++ [y]) := by
  intro i j x z bx bz hij hx hz hbx hbz
  rcases Nat.lt_or_ge j xs.length with hj | hj
  · rw [List.getElem?_append_left hj] at hz
    rw [List.getElem?_append_left (by omega)] at hx
    exact h i j x z bx bz hij hx hz hbx hbz
  · rw [List.getElem?_append_right hj] at hz
    have hj0 : j = xs.length := by
      rcases Nat.lt_or_ge (j - xs.length) 1 with h9 | h9
      · omega
      · rw [List.getElem?_eq_none (by simpa using h9)] at hz; cases hz
    subst hj0
    rw [Nat.sub_self] at hz
    simp only [List.getElem?_cons_zero, Option.some.injEq] at hz
    subst hz
    rw [List.getElem?_append_left hij] at hx
    have := h1 i x bx hx hbx
    have := h2 bz hbz
    omega
theorem OutT.inside {lo : Nat} {w : World} {v : Value} {xs : List Int} (h : OutT lo w v xs) : ∀ b, v.ownBlock = some b → lo ≤ b ∧ b < w.heap.size := by
  rcases h with ⟨_, rfl⟩ | ⟨_, h⟩
  · intro b hb
    simp [Value.ownBlock] at hb
  · exact h.lt
/-- The graph as a list of lists, in blocks of their own. -/
def GrAt (lo : Nat) (w : World) (v : Value) (P : Prg) : Prop := ∃ g c xs, v = .slice (some ⟨g, 0, none⟩) (P.np + 1) c ∧ w.ownsRow lo 26 1 v (P.np + 1) xs ∧ (∀ j, j < P.np + 1 → ∃ x, xs[j]? = some x ∧ OutT lo w x (ups (gr P j) 3)) ∧ Rising xs
theorem GrAt.of {lo : Nat} {w : World} {v : Value} {P : Prg} {xs : List Value} (h : w.ownsRow lo 26 1 v (P.np + 1) xs) (hr : ∀ j, j < P.np + 1 → ∃ x, xs[j]? = some x ∧ OutT lo w x (ups (gr P j) 3)) (hi : Rising xs) : GrAt lo w v P := by
  rcases h.2 with ⟨_, h2⟩ | ⟨b, cap, cur, rfl, h3⟩
  · omega
  · exact ⟨b, cap, xs, rfl, h, hr, hi⟩
theorem GrAt.below {lo B : Nat} {w w' : World} {v : Value} {P : Prg} (h : GrAt lo w v P) (hb : Below B w w') (hB : w.heap.size ≤ B) : GrAt lo w' v P := by
  obtain ⟨g, c, xs, rfl, h1, h2, hi⟩ := h
  refine ⟨g, c, xs, rfl, own_keeps h1 hb hB, fun j hj => ?_, hi⟩
  obtain ⟨x, h3, h4⟩ := h2 j hj
  exact ⟨x, h3, h4.below hb hB⟩
theorem GrAt.lowG {lo lo' : Nat} {w : World} {v : Value} {P : Prg} (h : GrAt lo w v P) (hl : lo' ≤ lo) : GrAt lo' w v P := by
  obtain ⟨g, c, xs, rfl, h1, h2, hi⟩ := h
  refine ⟨g, c, xs, rfl, own_low h1 hl, fun j hj => ?_, hi⟩
  obtain ⟨x, h3, h4⟩ := h2 j hj
  exact ⟨x, h3, h4.low hl⟩
theorem grow_at {base n j : Nat} {w : World} {g cap : Nat} {xs : List Value} {u : Value} (h : w.ownsRow base 26 1 (.slice (some ⟨g, 0, none⟩) n cap) n xs) (hj : xs[j]? = some u) : w.cell? ⟨g, j, none⟩ = some u := by
  have := h.cells (g := g) rfl j u hj
  rwa [show (⟨g, 0, none⟩ : Addr).add j = ⟨g, j, none⟩ by unfold Addr.add; split <;> simp_all] at this
/-- One list of the graph. -/
theorem GrAt.row {lo : Nat} {w : World} {v : Value} {P : Prg} (h : GrAt lo w v P) {j : Nat} (hj : j < P.np + 1) : ∃ g cap A c, v = .slice (some ⟨g, 0, none⟩) (P.np + 1) cap ∧ g < w.heap.size ∧ w.cell? ⟨g, j, none⟩ = some (.slice A (ups (gr P j) 3).length c) ∧ OutT lo w (.slice A (ups (gr P j) 3).length c) (ups (gr P j) 3) := by
  obtain ⟨g, cap, xs, rfl, h1, h2, _⟩ := h
  obtain ⟨x, h3, h4⟩ := h2 j hj
  obtain ⟨A, c, rfl, _⟩ := h4.open
  refine ⟨g, cap, A, c, rfl, ?_, grow_at h1 h3, h4⟩
  rcases h1.2 with ⟨h5, _⟩ | ⟨b, cap', cur, e, h6, h7, _⟩
  · cases h5
  · injection e with e
    injection e with e
    injection e with e _ _
    subst e
    exact heap_lt h7
theorem box_grown {g : Nat} {w w' : World} {t : TypeId} {cs : Array Value} {row : Option Nat} (h : Box w g t cs) (hg : w.grownBy w' row) (hne : some g ≠ row) : Box w' g t cs := (hg.block g h.lt hne).trans h

set_option maxRecDepth 100000 in
set_option maxHeartbeats 12800000 in
theorem implGraph_any (lo : Nat) (P : Prg) (Av Ax As Ap Ab : Option Addr) (cv cx cs cp cb : Nat) (w : World) (hs : P.small) (F0 : PgW P) (h : PgAt lo w Av Ax As Ap Ab P) :
    Calls Try.prog 44 #[.agg #[.slice Av P.nv cv, .slice Ax P.nx cx, .slice As P.ns cs, .slice Ap P.np cp, .slice Ab P.nb cb, .int .i64 P.fuel]] w fun e w' => ∃ v, e = .returned v ∧ GrAt w.heap.size w' v P ∧ Below w.heap.size w w' := by
  have FW := F0
  have hP := Box.new w 37 #[.slice Av P.nv cv, .slice Ax P.nx cx, .slice As P.ns cs, .slice Ap P.np cp, .slice Ab P.nb cb, .int .i64 P.fuel]
  have hB := (Below.refl w.heap.size w).alloc (Nat.le_refl _) (.cells #[.slice Av P.nv cv, .slice Ax P.nx cx, .slice As P.ns cs, .slice Ap P.np cp, .slice Ab P.nb cb, .int .i64 P.fuel] 37)
  obtain ⟨i0, ji, jz0, jz1, jz2⟩ := info_three Try.infoInts
  have HP := Lib.hid h
  have HSM := Lib.hid hs
  have HW := Lib.hid FW
  have hnp : P.np ≤ 3 := HW.out.1
  have F := Lib.hid F0
  clear h hs F0 FW
  obtain ⟨w1, hw1⟩ : ∃ w1, w1 = w.alloc (.cells #[.slice Av P.nv cv, .slice Ax P.nx cx, .slice As P.ns cs, .slice Ap P.np cp, .slice Ab P.nb cb, .int .i64 P.fuel] 37) := ⟨_, rfl⟩
  rw [← hw1] at hP hB
  obtain ⟨q0, q1, q2, q3, q4, q5, qf⟩ := hP.six
  go_enter Try.func44, Try.ntmps44
  go_upto_region 1 with fail
  rw [← hw1]
  clear hw1
  go_wp2_with fail
  clear q0 q1 q2 q3 q4 q5 qf
  go_loopg [3, 9] P.np (fun q gv iv wr => ∃ (k : Nat) (xs : List Value), k + q = P.np ∧ iv = .int .i64 (k : Nat) ∧ wr.ownsRow (w.heap.size + 1) 26 1 gv k xs ∧ Hid (Rising xs) ∧ Hid (∀ j, j < k → ∃ x, xs[j]? = some x ∧ OutT (w.heap.size + 1) wr x (ups (gr P j) 3)) ∧ Box wr w.heap.size 37 #[.slice Av P.nv cv, .slice Ax P.nx cx, .slice As P.ns cs, .slice Ap P.np cp, .slice Ab P.nb cb, .int .i64 P.fuel] ∧ Below w.heap.size w wr)
  case atStart => exact ⟨0, [], by omega, rfl, ⟨rfl, .inl ⟨rfl, rfl⟩⟩, Lib.hid Rising.nil, Lib.hid fun j hj => absurd hj (Nat.not_lt_zero _), hP, hB⟩
  case round =>
    rename World => w4
    obtain ⟨k, xs, hk, rfl, hown, hris, hrows, hP, hB⟩ := hrel
    obtain ⟨q0, q1, q2, q3, q4, q5, qf⟩ := hP.six
    by_cases hk0 : k < P.np
    · obtain ⟨bp, op, A8, c8, rfl, hbp, z0, z1, g1⟩ := HP.out.p.at_ hk0
      have y0 := (hB.cell (p := ⟨bp, op + k * 2, none⟩) hbp).trans z0
      have y1 := (hB.cell (p := ⟨bp, op + k * 2 + 1, none⟩) hbp).trans z1
      have hki : (k : Int) < (P.np : Int) := by omega
      have hV := Box.new w4 78 #[.string (P.pn k), .slice A8 (P.pl k) c8]
      have ha4 := (Below.refl w4.heap.size w4).alloc (Nat.le_refl _) (.cells #[.string (P.pn k), .slice A8 (P.pl k) c8] 78)
      have hP5 := hP.alloc (.cells #[.string (P.pn k), .slice A8 (P.pl k) c8] 78)
      have hB5 := hB.trans (ha4.mono hB.size)
      have hown5 := hown.alloc (.cells #[.string (P.pn k), .slice A8 (P.pl k) c8] 78)
      have hrows5 : Hid (∀ j, j < k → ∃ x, xs[j]? = some x ∧ OutT (w.heap.size + 1) (w4.alloc (.cells #[.string (P.pn k), .slice A8 (P.pl k) c8] 78)) x (ups (gr P j) 3)) := Lib.hid fun j hj => by
        obtain ⟨x, h1, h2⟩ := hrows.out j hj
        exact ⟨x, h1, h2.below ha4 (Nat.le_refl _)⟩
      obtain ⟨U, hU⟩ : ∃ U, U = foldU (clD P P.ns) (P.pb k) (P.pl k) nob := ⟨_, rfl⟩
      have HU : Hid (U = gr P k) := Lib.hid (by rw [gr, if_pos hk0]; exact hU)
      have CC : Hid (∀ W, Below w.heap.size w W → _) := Lib.hid fun W (hw : Below w.heap.size w W) => callsIn_any lo lo P (P.pl k) (P.pb k) Av Ax As (some ⟨bp, op, none⟩) Ab A8 cv cx cs cp cb c8 w W HSM.out HW.out HP.out g1 hw (HSM.out.pl k hk0) (fun j hj => by have := HW.out.2.2.2.1 k hk0 j hj; omega)
      rw [← hU] at CC
      obtain ⟨w5, hw5⟩ : ∃ w5, w5 = w4.alloc (.cells #[.string (P.pn k), .slice A8 (P.pl k) c8] 78) := ⟨_, rfl⟩
      rw [← hw5] at hV hP5 hB5 hown5 hrows5
      have hul := ups_le U 3
      clear hP hB hown hrows g1 hU ha4 z0 z1
      go_upto_region 5 with fail
      rw [← hw5]
      clear hw5 q0 q1 q2 q3 q4 q5 qf y0 y1
      obtain ⟨q0, q1, q2, q3, q4, q5, qf⟩ := hP5.six
      have v0 := hV.cell 0
      have v1 := hV.cell 1
      go_wp2_with (first
        | (go_at_call 81
           refine (CC.out _ hB5).mono ?_
           rintro e w6 ⟨v6, rfl, ho6, hb6⟩
           obtain ⟨A6, c6, rfl, _⟩ := ho6.open
           have hown6 := own_keeps hown5 hb6 (Nat.le_refl _)
           have hP6 := hP5.below hb6 hP5.lt
           have hB6 := hB5.trans (hb6.mono hB5.size)
           have hsz6 := hb6.size
           have hsp6 := hP6.lt
           have hsp5 := hP5.lt
           have hrows6 : Hid (∀ j, j < k → ∃ x, xs[j]? = some x ∧ OutT (w.heap.size + 1) w6 x (ups (gr P j) 3)) := Lib.hid fun j hj => by
             obtain ⟨x, h1, h2⟩ := hrows5.out j hj
             exact ⟨x, h1, h2.below hb6 (Nat.le_refl _)⟩
           have ho6' := Lib.hid (ho6.low (show w.heap.size + 1 ≤ w5.heap.size by omega))
           have hris6 : Hid (Rising (xs ++ [.slice A6 (ups U 3).length c6])) := Lib.hid (hris.out.snoc (B := w5.heap.size) (fun i x bx hx hbx => by
             obtain ⟨x', h1, h2⟩ := hrows5.out i (by
               have := hown5.1
               rcases Nat.lt_or_ge i xs.length with h9 | h9
               · omega
               · rw [List.getElem?_eq_none h9] at hx; cases hx)
             rw [hx] at h1
             cases h1
             exact (h2.inside bx hbx).2) (fun b hb => (ho6.inside b hb).1))
           clear ho6 q0 q1 q2 q3 q4 q5 qf v0 v1)
        | (at_builtin; refine wpList_append_own _ rfl _ _ 41 rfl (w.heap.size + 1) 26 i0 (.slice none 0 0) 1 24 Try.underlying41 ji jz0 jz1 jz2 rfl (by decide) _ k _ rfl (hown6.alloc _) ⟨w6.heap.size, 0, none⟩ 1 1 [.slice A6 (ups U 3).length c6] rfl rfl (cell_one_new _ _ _) (one_sl _ _ _) (by unfold maxLen; omega) (by omega) (by simp; omega) ?_; intro v8 w8 hown8 hgrow8 _))
      go_roundg (gk - 1)
      case rel =>
        refine ⟨k + 1, xs ++ [.slice A6 (ups U 3).length c6], by omega, by go_num, hown8, hris6, Lib.hid fun j hj => ?_, box_grown (hP6.alloc _) hgrow8 (fun z => by have := (hown6.lt _ z.symm).1; omega), (hB6.alloc hB6.size _).grown hgrow8 (by simp; omega) (fun r hr => by have := (hown6.lt r hr).1; omega)⟩
        have hxl : xs.length = k := by have := hown6.1; omega
        by_cases hjk : j = k
        · subst hjk
          refine ⟨_, by rw [List.getElem?_append_right (by omega), hxl, Nat.sub_self]; rfl, ?_⟩
          rw [← HU.out]
          exact (ho6'.out.below ((Below.refl w6.heap.size w6).alloc (Nat.le_refl _) _) (Nat.le_refl _)).kept (hown6.alloc _) hgrow8
        · obtain ⟨x, h1, h2⟩ := hrows6.out j (by omega)
          refine ⟨x, by rw [List.getElem?_append_left (by omega)]; exact h1, ?_⟩
          exact (h2.below ((Below.refl w6.heap.size w6).alloc (Nat.le_refl _) _) (Nat.le_refl _)).kept (hown6.alloc _) hgrow8
      case measure => omega
    · obtain rfl : k = P.np := by omega
      obtain ⟨U, hU⟩ : ∃ U, U = foldU (clD P P.ns) P.bd P.nb nob := ⟨_, rfl⟩
      have HU : Hid (U = gr P P.np) := Lib.hid (by rw [gr, if_neg (Nat.lt_irrefl _)]; exact hU)
      have CC : Hid (∀ W, Below w.heap.size w W → _) := Lib.hid fun W (hw : Below w.heap.size w W) => callsIn_any lo lo P (P.nb) (P.bd) Av Ax As Ap Ab Ab cv cx cs cp cb cb w W HSM.out HW.out HP.out HP.out.b hw (HSM.out.nb) (fun j hj => by have := HW.out.2.2.1 j hj; omega)
      rw [← hU] at CC
      have hul := ups_le U 3
      clear hU
      go_wp2_with (first
        | (go_at_call 81
           refine (CC.out _ hB).mono ?_
           rintro e w6 ⟨v6, rfl, ho6, hb6⟩
           obtain ⟨A6, c6, rfl, _⟩ := ho6.open
           have hown6 := own_keeps hown hb6 (Nat.le_refl _)
           have hB6 := hB.trans (hb6.mono hB.size)
           have hsz6 := hb6.size
           have hsp5 := hP.lt
           have hrows6 : Hid (∀ j, j < P.np → ∃ x, xs[j]? = some x ∧ OutT (w.heap.size + 1) w6 x (ups (gr P j) 3)) := Lib.hid fun j hj => by
             obtain ⟨x, h1, h2⟩ := hrows.out j hj
             exact ⟨x, h1, h2.below hb6 (Nat.le_refl _)⟩
           have ho6' := Lib.hid (ho6.low (show w.heap.size + 1 ≤ w4.heap.size by omega))
           have hris6 : Hid (Rising (xs ++ [.slice A6 (ups U 3).length c6])) := Lib.hid (hris.out.snoc (B := w4.heap.size) (fun i x bx hx hbx => by
             obtain ⟨x', h1, h2⟩ := hrows.out i (by
               have := hown.1
               rcases Nat.lt_or_ge i xs.length with h9 | h9
               · omega
               · rw [List.getElem?_eq_none h9] at hx; cases hx)
             rw [hx] at h1
             cases h1
             exact (h2.inside bx hbx).2) (fun b hb => (ho6.inside b hb).1))
           clear ho6 q0 q1 q2 q3 q4 q5 qf)
        | (at_builtin; refine wpList_append_own _ rfl _ _ 41 rfl (w.heap.size + 1) 26 i0 (.slice none 0 0) 1 24 Try.underlying41 ji jz0 jz1 jz2 rfl (by decide) _ P.np _ rfl (hown6.alloc _) ⟨w6.heap.size, 0, none⟩ 1 1 [.slice A6 (ups U 3).length c6] rfl rfl (cell_one_new _ _ _) (one_sl _ _ _) (by unfold maxLen; omega) (by omega) (by simp; omega) ?_; intro v8 w8 hown8 hgrow8 _))
      go_ret
      have hxl : xs.length = P.np := by have := hown6.1; omega
      refine ⟨_, rfl, GrAt.of (own_low hown8 (Nat.le_succ _)) (fun j hj => ?_) hris6.out, (hB6.alloc hB6.size _).grown hgrow8 (by simp; omega) (fun r hr => by have := (hown6.lt r hr).1; omega)⟩
      by_cases hjk : j = P.np
      · subst hjk
        refine ⟨_, by rw [List.getElem?_append_right (by omega), hxl, Nat.sub_self]; rfl, ?_⟩
        rw [← HU.out]
        exact ((ho6'.out.below ((Below.refl w6.heap.size w6).alloc (Nat.le_refl _) _) (Nat.le_refl _)).kept (hown6.alloc _) hgrow8).low (Nat.le_succ _)
      · obtain ⟨x, h1, h2⟩ := hrows6.out j (by omega)
        refine ⟨x, by rw [List.getElem?_append_left (by omega)]; exact h1, ?_⟩
        exact ((h2.below ((Below.refl w6.heap.size w6).alloc (Nat.le_refl _) _) (Nat.le_refl _)).kept (hown6.alloc _) hgrow8).low (Nat.le_succ _)

set_option maxRecDepth 100000 in
set_option maxHeartbeats 12800000 in
theorem specGraph_any (lo : Nat) (P : Prg) (Av Ax As Ap Ab : Option Addr) (cv cx cs cp cb : Nat) (w : World) (hs : P.small) (hcv : P.nv ≤ cv) (hcp : P.np ≤ cp) (F0 : PgOk P) (h : PgAt lo w Av Ax As Ap Ab P) :
    Calls Try.prog 12 #[.agg #[.slice Av P.nv cv, .slice Ax P.nx cx, .slice As P.ns cs, .slice Ap P.np cp, .slice Ab P.nb cb, .int .i64 P.fuel]] w fun e w' => ∃ v, e = .returned (.tuple #[v, .bool true]) ∧ GrAt w.heap.size w' v P ∧ Below w.heap.size w w' := by
  have FW := F0.w
  have hP := Box.new w 37 #[.slice Av P.nv cv, .slice Ax P.nx cx, .slice As P.ns cs, .slice Ap P.np cp, .slice Ab P.nb cb, .int .i64 P.fuel]
  have hB := (Below.refl w.heap.size w).alloc (Nat.le_refl _) (.cells #[.slice Av P.nv cv, .slice Ax P.nx cx, .slice As P.ns cs, .slice Ap P.np cp, .slice Ab P.nb cb, .int .i64 P.fuel] 37)
  obtain ⟨i0, ji, jz0, jz1, jz2⟩ := info_three Try.infoInts
  have HP := Lib.hid h
  have HSM := Lib.hid hs
  have HW := Lib.hid FW
  have hnp : P.np ≤ 3 := HW.out.1
  have F := Lib.hid F0
  clear h hs F0 FW
  obtain ⟨q0, q1, q2, q3, q4, q5, qf⟩ := hP.six
  go_enter Try.func12, Try.ntmps12
  go_upto_region 4 with (first
      | (go_at_call 42
         refine (specVal_any lo P Av Ax As Ap Ab cv cx cs cp cb _ HSM.out hcv hcp (HP.out.below hB (Nat.le_refl _))).mono ?_
         rintro e w1 ⟨r, rfl, hr, hb⟩
         obtain rfl : r = true := hr.out.2 F.out
         clear q0 q1 q2 q3 q4 q5 qf hr
         replace hP := hP.below hb hP.lt
         replace hB := hB.trans (hb.mono hB.size)
         clear hb
         obtain ⟨q0, q1, q2, q3, q4, q5, qf⟩ := hP.six))
  go_wp2_with fail
  clear q0 q1 q2 q3 q4 q5 qf
  go_loopg [4, 13] P.np (fun q gv iv wr => ∃ (k : Nat) (xs : List Value), k + q = P.np ∧ iv = .int .i64 (k : Nat) ∧ wr.ownsRow (w.heap.size + 1) 26 1 gv k xs ∧ Hid (Rising xs) ∧ Hid (∀ j, j < k → ∃ x, xs[j]? = some x ∧ OutT (w.heap.size + 1) wr x (ups (gr P j) 3)) ∧ Box wr w.heap.size 37 #[.slice Av P.nv cv, .slice Ax P.nx cx, .slice As P.ns cs, .slice Ap P.np cp, .slice Ab P.nb cb, .int .i64 P.fuel] ∧ Below w.heap.size w wr)
  case atStart => exact ⟨0, [], by omega, rfl, ⟨rfl, .inl ⟨rfl, rfl⟩⟩, Lib.hid Rising.nil, Lib.hid fun j hj => absurd hj (Nat.not_lt_zero _), hP, hB⟩
  case round =>
    rename World => w4
    obtain ⟨k, xs, hk, rfl, hown, hris, hrows, hP, hB⟩ := hrel
    obtain ⟨q0, q1, q2, q3, q4, q5, qf⟩ := hP.six
    by_cases hk0 : k < P.np
    · obtain ⟨bp, op, A8, c8, rfl, hbp, z0, z1, g1⟩ := HP.out.p.at_ hk0
      have y0 := (hB.cell (p := ⟨bp, op + k * 2, none⟩) hbp).trans z0
      have y1 := (hB.cell (p := ⟨bp, op + k * 2 + 1, none⟩) hbp).trans z1
      have hki : (k : Int) < (P.np : Int) := by omega
      have hV := Box.new w4 78 #[.string (P.pn k), .slice A8 (P.pl k) c8]
      have ha4 := (Below.refl w4.heap.size w4).alloc (Nat.le_refl _) (.cells #[.string (P.pn k), .slice A8 (P.pl k) c8] 78)
      have hP5 := hP.alloc (.cells #[.string (P.pn k), .slice A8 (P.pl k) c8] 78)
      have hB5 := hB.trans (ha4.mono hB.size)
      have hown5 := hown.alloc (.cells #[.string (P.pn k), .slice A8 (P.pl k) c8] 78)
      have hrows5 : Hid (∀ j, j < k → ∃ x, xs[j]? = some x ∧ OutT (w.heap.size + 1) (w4.alloc (.cells #[.string (P.pn k), .slice A8 (P.pl k) c8] 78)) x (ups (gr P j) 3)) := Lib.hid fun j hj => by
        obtain ⟨x, h1, h2⟩ := hrows.out j hj
        exact ⟨x, h1, h2.below ha4 (Nat.le_refl _)⟩
      obtain ⟨U, hU⟩ : ∃ U, U = foldU (clD P P.ns) (P.pb k) (P.pl k) nob := ⟨_, rfl⟩
      have HU : Hid (U = gr P k) := Lib.hid (by rw [gr, if_pos hk0]; exact hU)
      have CC : Hid (∀ W, Below w.heap.size w W → _) := Lib.hid fun W (hw : Below w.heap.size w W) => bcS_all P HSM.out HW.out P.ns lo lo W.heap.size (P.pl k) (P.pb k) Av Ax As (some ⟨bp, op, none⟩) Ab A8 cv cx cs cp cb c8 nob (.slice none 0 0) w W HP.out g1 hw (Nat.le_refl _) (HSM.out.pl k hk0) (fun j hj => by have := HW.out.2.2.2.1 k hk0 j hj; omega) (.inl ⟨ups_nob 3, rfl⟩)
      rw [← hU] at CC
      obtain ⟨w5, hw5⟩ : ∃ w5, w5 = w4.alloc (.cells #[.string (P.pn k), .slice A8 (P.pl k) c8] 78) := ⟨_, rfl⟩
      rw [← hw5] at hV hP5 hB5 hown5 hrows5
      have hul := ups_le U 3
      clear hP hB hown hrows g1 hU ha4 z0 z1
      go_upto_region 7 with fail
      rw [← hw5]
      clear hw5 q0 q1 q2 q3 q4 q5 qf y0 y1
      obtain ⟨q0, q1, q2, q3, q4, q5, qf⟩ := hP5.six
      have v0 := hV.cell 0
      have v1 := hV.cell 1
      go_wp2_with (first
        | (go_at_call 43
           refine (CC.out _ hB5).mono ?_
           rintro e w6 ⟨v6, rfl, ho6, hb6⟩
           obtain ⟨A6, c6, rfl, _⟩ := ho6.open
           have hown6 := own_keeps hown5 hb6 (Nat.le_refl _)
           have hP6 := hP5.below hb6 hP5.lt
           have hB6 := hB5.trans (hb6.mono hB5.size)
           have hsz6 := hb6.size
           have hsp6 := hP6.lt
           have hsp5 := hP5.lt
           have hrows6 : Hid (∀ j, j < k → ∃ x, xs[j]? = some x ∧ OutT (w.heap.size + 1) w6 x (ups (gr P j) 3)) := Lib.hid fun j hj => by
             obtain ⟨x, h1, h2⟩ := hrows5.out j hj
             exact ⟨x, h1, h2.below hb6 (Nat.le_refl _)⟩
           have ho6' := Lib.hid (ho6.low (show w.heap.size + 1 ≤ w5.heap.size by omega))
           have hris6 : Hid (Rising (xs ++ [.slice A6 (ups U 3).length c6])) := Lib.hid (hris.out.snoc (B := w5.heap.size) (fun i x bx hx hbx => by
             obtain ⟨x', h1, h2⟩ := hrows5.out i (by
               have := hown5.1
               rcases Nat.lt_or_ge i xs.length with h9 | h9
               · omega
               · rw [List.getElem?_eq_none h9] at hx; cases hx)
             rw [hx] at h1
             cases h1
             exact (h2.inside bx hbx).2) (fun b hb => (ho6.inside b hb).1))
           clear ho6 q0 q1 q2 q3 q4 q5 qf v0 v1)
        | (at_builtin; refine wpList_append_own _ rfl _ _ 41 rfl (w.heap.size + 1) 26 i0 (.slice none 0 0) 1 24 Try.underlying41 ji jz0 jz1 jz2 rfl (by decide) _ k _ rfl (hown6.alloc _) ⟨w6.heap.size, 0, none⟩ 1 1 [.slice A6 (ups U 3).length c6] rfl rfl (cell_one_new _ _ _) (one_sl _ _ _) (by unfold maxLen; omega) (by omega) (by simp; omega) ?_; intro v8 w8 hown8 hgrow8 _))
      go_roundg (gk - 1)
      case rel =>
        refine ⟨k + 1, xs ++ [.slice A6 (ups U 3).length c6], by omega, by go_num, hown8, hris6, Lib.hid fun j hj => ?_, box_grown (hP6.alloc _) hgrow8 (fun z => by have := (hown6.lt _ z.symm).1; omega), (hB6.alloc hB6.size _).grown hgrow8 (by simp; omega) (fun r hr => by have := (hown6.lt r hr).1; omega)⟩
        have hxl : xs.length = k := by have := hown6.1; omega
        by_cases hjk : j = k
        · subst hjk
          refine ⟨_, by rw [List.getElem?_append_right (by omega), hxl, Nat.sub_self]; rfl, ?_⟩
          rw [← HU.out]
          exact (ho6'.out.below ((Below.refl w6.heap.size w6).alloc (Nat.le_refl _) _) (Nat.le_refl _)).kept (hown6.alloc _) hgrow8
        · obtain ⟨x, h1, h2⟩ := hrows6.out j (by omega)
          refine ⟨x, by rw [List.getElem?_append_left (by omega)]; exact h1, ?_⟩
          exact (h2.below ((Below.refl w6.heap.size w6).alloc (Nat.le_refl _) _) (Nat.le_refl _)).kept (hown6.alloc _) hgrow8
      case measure => omega
    · obtain rfl : k = P.np := by omega
      obtain ⟨U, hU⟩ : ∃ U, U = foldU (clD P P.ns) P.bd P.nb nob := ⟨_, rfl⟩
      have HU : Hid (U = gr P P.np) := Lib.hid (by rw [gr, if_neg (Nat.lt_irrefl _)]; exact hU)
      have CC : Hid (∀ W, Below w.heap.size w W → _) := Lib.hid fun W (hw : Below w.heap.size w W) => bcS_all P HSM.out HW.out P.ns lo lo W.heap.size (P.nb) (P.bd) Av Ax As Ap Ab Ab cv cx cs cp cb cb nob (.slice none 0 0) w W HP.out HP.out.b hw (Nat.le_refl _) (HSM.out.nb) (fun j hj => by have := HW.out.2.2.1 j hj; omega) (.inl ⟨ups_nob 3, rfl⟩)
      rw [← hU] at CC
      have hul := ups_le U 3
      clear hU
      go_wp2_with (first
        | (go_at_call 43
           refine (CC.out _ hB).mono ?_
           rintro e w6 ⟨v6, rfl, ho6, hb6⟩
           obtain ⟨A6, c6, rfl, _⟩ := ho6.open
           have hown6 := own_keeps hown hb6 (Nat.le_refl _)
           have hB6 := hB.trans (hb6.mono hB.size)
           have hsz6 := hb6.size
           have hsp5 := hP.lt
           have hrows6 : Hid (∀ j, j < P.np → ∃ x, xs[j]? = some x ∧ OutT (w.heap.size + 1) w6 x (ups (gr P j) 3)) := Lib.hid fun j hj => by
             obtain ⟨x, h1, h2⟩ := hrows.out j hj
             exact ⟨x, h1, h2.below hb6 (Nat.le_refl _)⟩
           have ho6' := Lib.hid (ho6.low (show w.heap.size + 1 ≤ w4.heap.size by omega))
           have hris6 : Hid (Rising (xs ++ [.slice A6 (ups U 3).length c6])) := Lib.hid (hris.out.snoc (B := w4.heap.size) (fun i x bx hx hbx => by
             obtain ⟨x', h1, h2⟩ := hrows.out i (by
               have := hown.1
               rcases Nat.lt_or_ge i xs.length with h9 | h9
               · omega
               · rw [List.getElem?_eq_none h9] at hx; cases hx)
             rw [hx] at h1
             cases h1
             exact (h2.inside bx hbx).2) (fun b hb => (ho6.inside b hb).1))
           clear ho6 q0 q1 q2 q3 q4 q5 qf)
        | (at_builtin; refine wpList_append_own _ rfl _ _ 41 rfl (w.heap.size + 1) 26 i0 (.slice none 0 0) 1 24 Try.underlying41 ji jz0 jz1 jz2 rfl (by decide) _ P.np _ rfl (hown6.alloc _) ⟨w6.heap.size, 0, none⟩ 1 1 [.slice A6 (ups U 3).length c6] rfl rfl (cell_one_new _ _ _) (one_sl _ _ _) (by unfold maxLen; omega) (by omega) (by simp; omega) ?_; intro v8 w8 hown8 hgrow8 _))
      go_ret2
      have hxl : xs.length = P.np := by have := hown6.1; omega
      refine ⟨_, rfl, GrAt.of (own_low hown8 (Nat.le_succ _)) (fun j hj => ?_) hris6.out, (hB6.alloc hB6.size _).grown hgrow8 (by simp; omega) (fun r hr => by have := (hown6.lt r hr).1; omega)⟩
      by_cases hjk : j = P.np
      · subst hjk
        refine ⟨_, by rw [List.getElem?_append_right (by omega), hxl, Nat.sub_self]; rfl, ?_⟩
        rw [← HU.out]
        exact ((ho6'.out.below ((Below.refl w6.heap.size w6).alloc (Nat.le_refl _) _) (Nat.le_refl _)).kept (hown6.alloc _) hgrow8).low (Nat.le_succ _)
      · obtain ⟨x, h1, h2⟩ := hrows6.out j (by omega)
        refine ⟨x, by rw [List.getElem?_append_left (by omega)]; exact h1, ?_⟩
        exact ((h2.below ((Below.refl w6.heap.size w6).alloc (Nat.le_refl _) _) (Nat.le_refl _)).kept (hown6.alloc _) hgrow8).low (Nat.le_succ _)

set_option maxRecDepth 100000 in
set_option maxHeartbeats 12800000 in
theorem specGraph_no (lo : Nat) (P : Prg) (Av Ax As Ap Ab : Option Addr) (cv cx cs cp cb : Nat) (w : World) (hs : P.small) (hcv : P.nv ≤ cv) (hcp : P.np ≤ cp) (F0 : ¬ PgOk P) (h : PgAt lo w Av Ax As Ap Ab P) :
    Calls Try.prog 12 #[.agg #[.slice Av P.nv cv, .slice Ax P.nx cx, .slice As P.ns cs, .slice Ap P.np cp, .slice Ab P.nb cb, .int .i64 P.fuel]] w fun e w' => e = .returned (.tuple #[.slice none 0 0, .bool false]) ∧ Below w.heap.size w w' := by
  have hP := Box.new w 37 #[.slice Av P.nv cv, .slice Ax P.nx cx, .slice As P.ns cs, .slice Ap P.np cp, .slice Ab P.nb cb, .int .i64 P.fuel]
  have hB := (Below.refl w.heap.size w).alloc (Nat.le_refl _) (.cells #[.slice Av P.nv cv, .slice Ax P.nx cx, .slice As P.ns cs, .slice Ap P.np cp, .slice Ab P.nb cb, .int .i64 P.fuel] 37)
  obtain ⟨q0, q1, q2, q3, q4, q5, qf⟩ := hP.six
  have H := Lib.hid h
  have HSM := Lib.hid hs
  have F := Lib.hid F0
  clear F0 h hs
  go_enter Try.func12, Try.ntmps12
  go_wp2_with (first
      | (go_at_call 42
         refine (specVal_any lo P Av Ax As Ap Ab cv cx cs cp cb _ HSM.out hcv hcp (H.out.below hB (Nat.le_refl _))).mono ?_
         rintro e w1 ⟨r, rfl, hr, hb⟩
         obtain rfl : r = false := by cases r with | false => rfl | true => exact absurd (hr.out.1 rfl) F.out
         clear q0 q1 q2 q3 q4 q5 qf hr
         replace hP := hP.below hb hP.lt
         replace hB := hB.trans (hb.mono hB.size)
         clear hb
         obtain ⟨q0, q1, q2, q3, q4, q5, qf⟩ := hP.six))
  go_ret2
  exact ⟨rfl, hB⟩

end Go.Proofs.Ytdeilceakhgjlaa
