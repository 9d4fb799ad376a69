/-
  How often the variables occur: the model's l5Uses. (Written by gen_pgcu5.py.)
-/
import Derived.Test.YtcdgbjklfmlhkaaPgCu3
import Derived.Test.YtcdgbjklfmlhkaaPgCu4
namespace Go.Proofs.Ytcdgbjklfmlhkaa
open Go.RowKit Num

/-- The rows, one for each expression. -/
def rowsL (gs : Nat → Nat) (n k : Nat) : List Value := (List.range k).map fun j => .slice (some ⟨gs j, 0, none⟩) n n
theorem rowsL_new (gs : Nat → Nat) (n k G : Nat) : rowsL (fun j => if j = k then G else gs j) n (k + 1) = rowsL gs n k ++ [.slice (some ⟨G, 0, none⟩) n n] := by
  rw [rowsL, List.range_succ, List.map_append, rowsL]
  congr 1
  · refine List.map_congr_left fun j hj => ?_
    have := List.mem_range.1 hj
    rw [if_neg (by omega)]
  · simp
theorem rowsL_get (gs : Nat → Nat) (n : Nat) {k a : Nat} (h : a < k) : (rowsL gs n k)[a]? = some (.slice (some ⟨gs a, 0, none⟩) n n) := by
  rw [rowsL, List.getElem?_map, List.getElem?_range h]; rfl
/-- A row as it begins. -/
def bsU (F : Nat → Nat → Int) (k : Nat) (x : Nat) : Int := if F k 0 = 2 ∧ F k 3 = (x : Int) then 1 else 0
/-- A row under way. -/
def rwU (F : Nat → Nat → Int) (k v : Nat) (x : Nat) : Int := if x < v then us F x (k + 1) k else bsU F k x
theorem rwU_zero (F : Nat → Nat → Int) (k x : Nat) : rwU F k 0 x = bsU F k x := if_neg (Nat.not_lt_zero _)
theorem rwU_step {F : Nat → Nat → Int} {k v : Nat} {z : Int} (hz : z = us F v (k + 1) k) (x : Nat) : (if x = v then z else rwU F k v x) = rwU F k (v + 1) x := by
  unfold rwU
  by_cases e : x = v
  · subst e; rw [if_pos rfl, if_pos (Nat.lt_succ_self _), hz]
  · rw [if_neg e]
    by_cases h : x < v
    · rw [if_pos h, if_pos (by omega)]
    · rw [if_neg h, if_neg (by omega)]
theorem us_at (F : Nat → Nat → Int) (x k : Nat) : us F x (k + 1) k = usV (F k 0) (F k 1) (F k 2) (F k 3) x (us F x k) := by rw [us_succ]; exact if_pos rfl
theorem us_old (F : Nat → Nat → Int) (x : Nat) {a k : Nat} (h : a < k) : us F x k a = us F x (a + 1) a := by
  have := us_stay F x a (k - (a + 1))
  rwa [show a + 1 + (k - (a + 1)) = k by omega] at this

theorem own_only {G base n : Nat} {w w' : World} {v : Value} {xs : List Value} {cs : Array Value} (h : w.ownsRow base 26 1 v n xs) (ho : Only G w w') (hG : Box w G 3 cs) : w'.ownsRow base 26 1 v n xs := by
  refine ⟨h.1, ?_⟩
  rcases h.2 with h2 | ⟨b, cap, cur, rfl, h3, h4, h5⟩
  · exact .inl h2
  · refine .inr ⟨b, cap, cur, rfl, h3, (ho.2 b (fun e => ?_) (heap_lt h4)).trans h4, h5⟩
    subst e
    have := h4.symm.trans hG
    simp at this
theorem bs_one {F : Nat → Nat → Int} {k : Nat} (x : Nat) (h : F k 0 = 1) : min (bsU F k x) 1001 = us F x (k + 1) k := by
  rw [us_at, usV, if_pos h, bsU, if_neg (by omega)]; rfl
theorem bs_two {F : Nat → Nat → Int} {k : Nat} (x : Nat) (h : F k 0 = 2) : min (bsU F k x) 1001 = us F x (k + 1) k := by
  rw [us_at, usV, if_neg (by omega), if_pos h, bsU]
  by_cases e : F k 3 = (x : Int)
  · rw [if_pos ⟨h, e⟩, if_pos e]; rfl
  · rw [if_neg (fun z => e z.2), if_neg e]; rfl
theorem box_not_own {g base n : Nat} {w : World} {v : Value} {xs : List Value} {cs : Array Value} (h : Box w g 3 cs) (hr : w.ownsRow base 26 1 v n xs) : some g ≠ v.ownBlock := by
  rcases hr.2 with ⟨rfl, _⟩ | ⟨b, cap, cur, rfl, h3, h4, h5⟩
  · simp [Value.ownBlock]
  · intro e
    obtain rfl : g = b := by simpa [Value.ownBlock] using e
    have := h4.symm.trans h
    simp at this
theorem row_at {base n j : Nat} {w : World} {g cap : Nat} {xs : List Value} {u : Value} (h : w.ownsRow base 26 1 (.slice (some ⟨g, 0, none⟩) n cap) n xs) (hj : xs[j]? = some u) : w.cell? ⟨g, j, none⟩ = some u := by
  have := h.cells (g := g) rfl j u hj
  rwa [show (⟨g, 0, none⟩ : Addr).add j = ⟨g, j, none⟩ by unfold Addr.add; split <;> simp_all] at this
theorem box_up {g : Nat} {w w' : World} {t : TypeId} {cs : Array Value} {row : Option Nat} (h : Box w g t cs) (hg : w.grownBy w' row) (hne : some g ≠ row) : Box w' g t cs := (hg.block g h.lt hne).trans h
theorem rw_self (F : Nat → Nat → Int) (k v : Nat) : rwU F k v v = bsU F k v := if_neg (Nat.lt_irrefl v)

set_option maxRecDepth 100000 in
set_option maxHeartbeats 6400000 in
theorem usesS_any (lo : Nat) (P : Prg) (Av Ax As Ap Ab : Option Addr) (cv cx cs cp cb e : Nat) (w : World) (hx : exsOk P.ex P.nv P.nx = true) (hnx : P.nx ≤ 40) (hnv : P.nv ≤ 5) (he : e < P.nx) (h : ExL lo w Ax P.nx P.ex) :
    Calls Try.prog 79 #[.agg #[.slice Av P.nv cv, .slice Ax P.nx cx, .slice As P.ns cs, .slice Ap P.np cp, .slice Ab P.nb cb, .int .i64 P.fuel], .int .i64 (e : Nat)] w fun r w' => ∃ A c, r = .returned (.slice A P.nv c) ∧ IntsAt w.heap.size w' A P.nv (fun x => us P.ex x (e + 1) e) ∧ Below w.heap.size w w' := by
  have hP := Box.new w 37 #[.slice Av P.nv cv, .slice Ax P.nx cx, .slice As P.ns cs, .slice Ap P.np cp, .slice Ab P.nb cb, .int .i64 P.fuel]
  have hB := (Below.refl w.heap.size w).alloc (Nat.le_refl _) (.cells #[.slice Av P.nv cv, .slice Ax P.nx cx, .slice As P.ns cs, .slice Ap P.np cp, .slice Ab P.nb cb, .int .i64 P.fuel] 37)
  obtain ⟨w1, hw1⟩ : ∃ w1, w1 = w.alloc (.cells #[.slice Av P.nv cv, .slice Ax P.nx cx, .slice As P.ns cs, .slice Ap P.np cp, .slice Ab P.nb cb, .int .i64 P.fuel] 37) := ⟨_, rfl⟩
  have hz1 : w.heap.size + 1 = w1.heap.size := by rw [hw1]; simp
  rw [← hw1] at hP hB
  have hmk := mk_int P.nv (by omega)
  obtain ⟨i0, ji, jz0, jz1, jz2⟩ := info_three Try.infoInts
  have H := Lib.hid h
  have HX := Lib.hid hx
  clear h hx
  go_enter Try.func79, Try.ntmps79
  go_wp2_with fail
  rw [← hw1]
  clear hw1
  go_loopg [5, 6] (e + 1) (fun q xv iv wr => ∃ (k : Nat) (gs : Nat → Nat), k + q = e + 1 ∧ iv = .int .i64 (k : Nat) ∧ wr.ownsRow (w.heap.size + 1) 26 1 xv k (rowsL gs P.nv k) ∧ Hid (∀ j, j < k → ∃ cs', Box wr (gs j) 3 cs' ∧ IntsC cs' P.nv (fun x => us P.ex x (j + 1) j) ∧ w.heap.size ≤ gs j) ∧ Box wr w.heap.size 37 #[.slice Av P.nv cv, .slice Ax P.nx cx, .slice As P.ns cs, .slice Ap P.np cp, .slice Ab P.nb cb, .int .i64 P.fuel] ∧ Below w.heap.size w wr)
  case atStart => exact ⟨0, fun _ => 0, by omega, rfl, ⟨rfl, .inl ⟨rfl, rfl⟩⟩, Lib.hid fun j hj => absurd hj (Nat.not_lt_zero _), hP, hB⟩
  case round =>
    rename World => w4
    obtain ⟨k, gs, hk, rfl, hown, hgs, hP, hB⟩ := hrel
    obtain ⟨q0, q1, q2, q3, q4, q5, qf⟩ := hP.six
    by_cases hk0 : k ≤ e
    · have hki : (k : Int) ≤ (e : Int) := by omega
      have hkx : k < P.nx := by omega
      have hkxi : (k : Int) < (P.nx : Int) := by omega
      obtain ⟨b, off, rfl, hb, r0, r1, r2, r3⟩ := (H.out.below hB (Nat.le_refl _)).1.at_ hkx
      have hV := Box.new w4 133 #[.int .i64 (P.ex k 0), .int .i64 (P.ex k 1), .int .i64 (P.ex k 2), .int .i64 (P.ex k 3)]
      have v0 := hV.cell 0
      have v1 := hV.cell 1
      have v2 := hV.cell 2
      have v3 := hV.cell 3
      have p0 := (hP.alloc (.cells #[.int .i64 (P.ex k 0), .int .i64 (P.ex k 1), .int .i64 (P.ex k 2), .int .i64 (P.ex k 3)] 133)).cell 0
      go_upto_region 7 with fail
      obtain ⟨G, hG⟩ : ∃ G, G = w4.heap.size + 1 := ⟨_, rfl⟩
      have hR := Box.new (w4.alloc (.cells #[.int .i64 (P.ex k 0), .int .i64 (P.ex k 1), .int .i64 (P.ex k 2), .int .i64 (P.ex k 3)] 133)) 3 (madeCells #[.int .i64 0] P.nv)
      rw [World.size_alloc, ← hG] at hR
      have hV6 := hV.alloc (.cells (madeCells #[.int .i64 0] P.nv) 3)
      have hP6 := (hP.alloc (.cells #[.int .i64 (P.ex k 0), .int .i64 (P.ex k 1), .int .i64 (P.ex k 2), .int .i64 (P.ex k 3)] 133)).alloc (.cells (madeCells #[.int .i64 0] P.nv) 3)
      have hB5 := hB.alloc hB.size (.cells #[.int .i64 (P.ex k 0), .int .i64 (P.ex k 1), .int .i64 (P.ex k 2), .int .i64 (P.ex k 3)] 133)
      have hB6 := hB5.alloc hB5.size (.cells (madeCells #[.int .i64 0] P.nv) 3)
      have hown6 := (hown.alloc (.cells #[.int .i64 (P.ex k 0), .int .i64 (P.ex k 1), .int .i64 (P.ex k 2), .int .i64 (P.ex k 3)] 133)).alloc (.cells (madeCells #[.int .i64 0] P.nv) 3)
      have hgs6 : Hid (∀ j, j < k → ∃ cs', Box ((w4.alloc (.cells #[.int .i64 (P.ex k 0), .int .i64 (P.ex k 1), .int .i64 (P.ex k 2), .int .i64 (P.ex k 3)] 133)).alloc (.cells (madeCells #[.int .i64 0] P.nv) 3)) (gs j) 3 cs' ∧ IntsC cs' P.nv (fun x => us P.ex x (j + 1) j) ∧ w.heap.size ≤ gs j ∧ gs j < G) := Lib.hid fun j hj => by
        obtain ⟨cs', h1, h2, h3⟩ := hgs.out j hj
        exact ⟨cs', (h1.alloc _).alloc _, h2, h3, by rw [hG]; have := h1.lt; omega⟩
      rw [← hG]
      obtain ⟨w6, hw6⟩ : ∃ w6, w6 = (w4.alloc (.cells #[.int .i64 (P.ex k 0), .int .i64 (P.ex k 1), .int .i64 (P.ex k 2), .int .i64 (P.ex k 3)] 133)).alloc (.cells (madeCells #[.int .i64 0] P.nv) 3) := ⟨_, rfl⟩
      rw [← hw6] at hR hV6 hP6 hB6 hown6 hgs6 ⊢
      have hVG : w4.heap.size ≠ G := by omega
      have hPG : w.heap.size ≠ G := by have := hP.lt; omega
      have hGlo : w.heap.size ≤ G := by have := hP.lt; omega
      clear hw6 hmk hP hB hB5 hown hgs hV v0 v1 v2 v3 p0 q0 q1 q2 q3 q4 q5 qf r0 r1 r2 r3 hG
      have v0 := hV6.cell 0
      have v3 := hV6.cell 3
      by_cases o1 : P.ex k 0 = 1
      · have g2 : (P.ex k 0 == 2) = false := by rw [o1]; rfl
        have gt : decide ((2 : Int) < P.ex k 0) = false := decide_eq_false (by omega)
        have HZ : Hid (∀ x, min (bsU P.ex k x) 1001 = us P.ex x (k + 1) k) := Lib.hid fun x => bs_one x o1
        have HB0 : Hid (IntsC (madeCells #[.int .i64 0] P.nv) P.nv (rwU P.ex k 0)) := Lib.hid ((IntsC.made P.nv).congr fun j _ => by rw [rwU_zero, bsU, if_neg (by omega)])
        clear o1
        go_wp2_with fail
        go_loopg [33] P.nv (fun q iv wr => ∃ (v : Nat) (ms : Array Value), v + q = P.nv ∧ iv = .int .i64 (v : Nat) ∧ Hid (IntsC ms P.nv (rwU P.ex k v)) ∧ Box wr G 3 ms ∧ Only G w6 wr ∧ Below w.heap.size w wr)
        case atStart => exact ⟨0, _, by omega, rfl, HB0, hR, Only.refl _ _, hB6⟩
        case round =>
          rename World => w7
          obtain ⟨v, ms, hv, rfl, hc, hbx, hon, hB7⟩ := hrel
          have hV7 := hV6.only hon hVG
          have hP7 := hP6.only hon hPG
          have v0 := hV7.cell 0
          by_cases hv0 : v < P.nv
          · have k0 := hc.out.at_ hbx hv0
            rw [rw_self] at k0
            have f0 := hbx.free v
            have hvi : (v : Int) < (P.nv : Int) := by omega
            have HS : Hid (IntsC (ms.setIfInBounds v (.int .i64 (min (bsU P.ex k v) 1001))) P.nv (rwU P.ex k (v + 1))) := Lib.hid ((hc.out.put hv0 _).congr fun j _ => rwU_step (HZ.out v) j)
            go_wp2_with (go_at_call 126; refine (least_any _ _ _).mono ?_; rintro e9 w9 ⟨rfl, rfl⟩)
            go_roundg (gk - 1)
            case rel => exact ⟨v + 1, _, by omega, by go_num, HS, hbx.set v _, hon.trans (Only.set G _ _ _), hB7.setCell (p := ⟨G, v, none⟩) hGlo _⟩
            case measure => omega
          · obtain rfl : v = P.nv := by omega
            have hrow : Hid (IntsC ms P.nv (fun x => us P.ex x (k + 1) k)) := Lib.hid (hc.out.congr fun j hj => if_pos hj)
            have hown7 := own_only hown6 hon hR
            have hbn := box_not_own hbx hown7
            have hgs7 : Hid (∀ j, j < k → ∃ cs', Box w7 (gs j) 3 cs' ∧ IntsC cs' P.nv (fun x => us P.ex x (j + 1) j) ∧ w.heap.size ≤ gs j) := Lib.hid fun j hj => by
              obtain ⟨cs', h1, h2, h3, h4⟩ := hgs6.out j hj
              exact ⟨cs', h1.only hon (Nat.ne_of_lt h4), h2, h3⟩
            have hsz7 := hB7.size
            have hsp7 := hP7.lt
            go_wp2_with (at_builtin; refine wpList_append_own _ rfl _ _ 57 rfl (w.heap.size + 1) 26 i0 (.slice none 0 0) 1 24 Try.underlying57 ji jz0 jz1 jz2 rfl (by decide) _ k _ rfl (hown7.alloc _) ⟨w7.heap.size, 0, none⟩ 1 1 [.slice (some ⟨G, 0, none⟩) P.nv P.nv] rfl rfl (cell_one_new _ _ _) (one_sl _ _ _) (by unfold maxLen; omega) (by omega) (by simp; omega) ?_; intro v8 w8 hown8 hgrow8 _)
            go_roundg (e + 1 - (k + 1))
            case rel =>
              refine ⟨k + 1, fun j => if j = k then G else gs j, by omega, by go_num, by rw [rowsL_new]; exact hown8, Lib.hid fun j hj => ?_, box_up (hP7.alloc _) hgrow8 (fun z => by have := (hown7.lt _ z.symm).1; omega), (hB7.alloc hB7.size _).grown hgrow8 (by simp; omega) (fun r hr => by have := (hown7.lt r hr).1; omega)⟩
              by_cases hjk : j = k
              · subst hjk
                simp only [if_true]
                exact ⟨ms, box_up (hbx.alloc _) hgrow8 hbn, hrow.out, hGlo⟩
              · simp only [if_neg hjk]
                obtain ⟨cs', h1, h2, h3⟩ := hgs7.out j (by omega)
                exact ⟨cs', box_up (h1.alloc _) hgrow8 (box_not_own h1 hown7), h2, h3⟩
            case measure => omega
      · have o1b : P.ex k 0 ≠ 1 := o1
        by_cases o2 : P.ex k 0 = 2
        · have g2 : (P.ex k 0 == 2) = true := by rw [o2]; rfl
          have gt : decide ((2 : Int) < P.ex k 0) = false := decide_eq_false (by omega)
          have HZ : Hid (∀ x, min (bsU P.ex k x) 1001 = us P.ex x (k + 1) k) := Lib.hid fun x => bs_two x o2
          have hox := exsOk_in HX.out hkx
          rw [exOk, if_neg o1, if_pos o2, decide_eq_true_eq] at hox
          obtain ⟨m2, hm2⟩ : ∃ m2 : Nat, P.ex k 3 = (m2 : Int) := ⟨(P.ex k 3).toNat, by omega⟩
          have hmv : m2 < P.nv := by omega
          have hmi : (m2 : Int) < (P.nv : Int) := by omega
          have HB0 : Hid (IntsC ((madeCells #[.int .i64 0] P.nv).setIfInBounds m2 (.int .i64 1)) P.nv (rwU P.ex k 0)) := Lib.hid (((IntsC.made P.nv).put hmv 1).congr fun j _ => by
            rw [rwU_zero, bsU, o2, hm2]
            by_cases e9 : j = m2
            · rw [if_pos e9, if_pos ⟨rfl, by omega⟩]
            · rw [if_neg e9, if_neg (fun z => e9 (by have := z.2; omega))])
          have k0 := (IntsC.made P.nv).at_ hR hmv
          have f0 := hR.free m2
          rw [hm2] at v3
          clear o1 o1b o2 hox hm2
          go_wp2_with fail
          go_loopg [33] P.nv (fun q iv wr => ∃ (v : Nat) (ms : Array Value), v + q = P.nv ∧ iv = .int .i64 (v : Nat) ∧ Hid (IntsC ms P.nv (rwU P.ex k v)) ∧ Box wr G 3 ms ∧ Only G w6 wr ∧ Below w.heap.size w wr)
          case atStart => exact ⟨0, _, by omega, rfl, HB0, hR.set m2 _, Only.set G _ _ _, hB6.setCell (p := ⟨G, m2, none⟩) hGlo _⟩
          case round =>
            rename World => w7
            obtain ⟨v, ms, hv, rfl, hc, hbx, hon, hB7⟩ := hrel
            have hV7 := hV6.only hon hVG
            have hP7 := hP6.only hon hPG
            have v0 := hV7.cell 0
            by_cases hv0 : v < P.nv
            · have k0 := hc.out.at_ hbx hv0
              rw [rw_self] at k0
              have f0 := hbx.free v
              have hvi : (v : Int) < (P.nv : Int) := by omega
              have HS : Hid (IntsC (ms.setIfInBounds v (.int .i64 (min (bsU P.ex k v) 1001))) P.nv (rwU P.ex k (v + 1))) := Lib.hid ((hc.out.put hv0 _).congr fun j _ => rwU_step (HZ.out v) j)
              go_wp2_with (go_at_call 126; refine (least_any _ _ _).mono ?_; rintro e9 w9 ⟨rfl, rfl⟩)
              go_roundg (gk - 1)
              case rel => exact ⟨v + 1, _, by omega, by go_num, HS, hbx.set v _, hon.trans (Only.set G _ _ _), hB7.setCell (p := ⟨G, v, none⟩) hGlo _⟩
              case measure => omega
            · obtain rfl : v = P.nv := by omega
              have hrow : Hid (IntsC ms P.nv (fun x => us P.ex x (k + 1) k)) := Lib.hid (hc.out.congr fun j hj => if_pos hj)
              have hown7 := own_only hown6 hon hR
              have hbn := box_not_own hbx hown7
              have hgs7 : Hid (∀ j, j < k → ∃ cs', Box w7 (gs j) 3 cs' ∧ IntsC cs' P.nv (fun x => us P.ex x (j + 1) j) ∧ w.heap.size ≤ gs j) := Lib.hid fun j hj => by
                obtain ⟨cs', h1, h2, h3, h4⟩ := hgs6.out j hj
                exact ⟨cs', h1.only hon (Nat.ne_of_lt h4), h2, h3⟩
              have hsz7 := hB7.size
              have hsp7 := hP7.lt
              go_wp2_with (at_builtin; refine wpList_append_own _ rfl _ _ 57 rfl (w.heap.size + 1) 26 i0 (.slice none 0 0) 1 24 Try.underlying57 ji jz0 jz1 jz2 rfl (by decide) _ k _ rfl (hown7.alloc _) ⟨w7.heap.size, 0, none⟩ 1 1 [.slice (some ⟨G, 0, none⟩) P.nv P.nv] rfl rfl (cell_one_new _ _ _) (one_sl _ _ _) (by unfold maxLen; omega) (by omega) (by simp; omega) ?_; intro v8 w8 hown8 hgrow8 _)
              go_roundg (e + 1 - (k + 1))
              case rel =>
                refine ⟨k + 1, fun j => if j = k then G else gs j, by omega, by go_num, by rw [rowsL_new]; exact hown8, Lib.hid fun j hj => ?_, box_up (hP7.alloc _) hgrow8 (fun z => by have := (hown7.lt _ z.symm).1; omega), (hB7.alloc hB7.size _).grown hgrow8 (by simp; omega) (fun r hr => by have := (hown7.lt r hr).1; omega)⟩
                by_cases hjk : j = k
                · subst hjk
                  simp only [if_true]
                  exact ⟨ms, box_up (hbx.alloc _) hgrow8 hbn, hrow.out, hGlo⟩
                · simp only [if_neg hjk]
                  obtain ⟨cs', h1, h2, h3⟩ := hgs7.out j (by omega)
                  exact ⟨cs', box_up (h1.alloc _) hgrow8 (box_not_own h1 hown7), h2, h3⟩
              case measure => omega
        · have g2 : (P.ex k 0 == 2) = false := beq_eq_false_iff_ne.2 o2
          obtain ⟨⟨a0, a1⟩, hbb, hb10, h3, _⟩ := ops_below HX.out hkx o1 o2
          have gt : decide ((2 : Int) < P.ex k 0) = true := decide_eq_true (by omega)
          obtain ⟨a, ha⟩ : ∃ a : Nat, P.ex k 1 = (a : Int) := ⟨(P.ex k 1).toNat, by omega⟩
          have hak : a < k := by omega
          have haki : (a : Int) < (k : Int) := by omega
          have HB0 : Hid (IntsC (madeCells #[.int .i64 0] P.nv) P.nv (rwU P.ex k 0)) := Lib.hid ((IntsC.made P.nv).congr fun j _ => by rw [rwU_zero, bsU, if_neg (fun z => o2 z.1)])
          by_cases h10 : P.ex k 0 = 10
          · skip
            have o10 : P.ex k 0 = 10 := h10
            have gne : (P.ex k 0 != 10) = false := by rw [o10]; rfl
            have HZ : Hid (∀ x, min (us P.ex x (a + 1) a) 1001 = us P.ex x (k + 1) k) := Lib.hid fun x => by rw [us_at P.ex x k, usV, if_neg o1, if_neg o2, if_pos o10, ha, Int.toNat_natCast, us_old P.ex x hak]; have := us_bound P.ex x (a + 1) a; omega
            have HE1 := Lib.hid ha
            
            have HO2 := Lib.hid o2
            have HO1 := Lib.hid o1
            clear h10 o10 hbb hb10 a0 a1 ha o1 o1b o2 
            go_wp2_with fail
            go_loopg [33] P.nv (fun q iv wr => ∃ (v : Nat) (ms : Array Value), v + q = P.nv ∧ iv = .int .i64 (v : Nat) ∧ Hid (IntsC ms P.nv (rwU P.ex k v)) ∧ Box wr G 3 ms ∧ Only G w6 wr ∧ Below w.heap.size w wr)
            case atStart => exact ⟨0, _, by omega, rfl, HB0, hR, Only.refl _ _, hB6⟩
            case round =>
              rename World => w7
              obtain ⟨v, ms, hv, rfl, hc, hbx, hon, hB7⟩ := hrel
              have hV7 := hV6.only hon hVG
              have hP7 := hP6.only hon hPG
              have v0 := hV7.cell 0
              by_cases hv0 : v < P.nv
              · have hown7 := own_only hown6 hon hR
                rcases hown7.2 with ⟨_, h0⟩ | ⟨g, cap, cur, rfl, h5⟩
                · omega
                · have y1 := row_at hown7 (rowsL_get gs P.nv hak)
                  obtain ⟨csa, g1, hca, _, g4⟩ := hgs6.out a hak
                  have y2 := hca.at_ (g1.only hon (Nat.ne_of_lt g4)) hv0
                  have v1 := hV7.cell 1
                  rw [HE1.out] at v1
                  have k0 := hc.out.at_ hbx hv0
                  rw [rw_self, bsU, if_neg (fun z => HO2.out z.1)] at k0
                  have f0 := hbx.free v
                  have hvi : (v : Int) < (P.nv : Int) := by omega
                  obtain ⟨ua, hua⟩ : ∃ ua, ua = us P.ex v (a + 1) a := ⟨_, rfl⟩
                  have hub := us_bound P.ex v (a + 1) a
                  rw [← hua] at y2 hub
                  obtain ⟨u0, u1⟩ := hub
                  have wu : IntKind.i64.wrap ua = ua := IntWalk.i64_in _ (by omega)
                  obtain ⟨w8, hw8⟩ : ∃ w8, w8 = (w7.setCell ⟨G, v, none⟩ (.int .i64 ua)).drew := ⟨_, rfl⟩
                  have hb8 : Box w8 G 3 (ms.setIfInBounds v (.int .i64 ua)) := by rw [hw8]; exact (hbx.set v (.int .i64 ua)).below ((Below.refl _ _).drew) (hbx.set v (.int .i64 ua)).lt
                  have hon8 : Only G w6 w8 := by rw [hw8]; exact hon.trans ((Only.set G w7 v (.int .i64 ua)).trans (Only.below ((Below.refl _ _).drew) (Nat.le_refl _)))
                  have hB8 : Below w.heap.size w w8 := by rw [hw8]; exact (hB7.setCell (p := ⟨G, v, none⟩) hGlo _).drew
                  have hc8 := hc.out.put hv0 ua
                  have HC8 := Lib.hid hc8
                  have HUA := Lib.hid hua
                  clear hc8 h5 hua g1 hca g4
                  go_wp2_with fail
                  go_region
                  all_goals skip
                  rw [← hw8]
                  have k8 := HC8.out.at_ hb8 hv0
                  rw [if_pos rfl] at k8
                  have f8 := hb8.free v
                  have hV8 := hV6.only hon8 hVG
                  have x0 := hV8.cell 0
                  clear hw8 k0 f0 v0 v1 y1 y2 hbx hV7 hP7 hon hB7
                  have HS : Hid (IntsC ((ms.setIfInBounds v (.int .i64 ua)).setIfInBounds v (.int .i64 (min ua 1001))) P.nv (rwU P.ex k (v + 1))) := Lib.hid ((HC8.out.put hv0 _).congr fun j _ => by
                    rw [← rwU_step (show min ua 1001 = us P.ex v (k + 1) k by rw [HUA.out]; exact HZ.out v) j]
                    by_cases e9 : j = v
                    · rw [if_pos e9, if_pos e9]
                    · simp only [if_neg e9])
                  go_wp2_with (go_at_call 126; refine (least_any _ _ _).mono ?_; rintro e9 w9 ⟨rfl, rfl⟩)
                  go_roundg (gk - 1)
                  case rel => exact ⟨v + 1, _, by omega, by go_num, HS, hb8.set v _, hon8.trans (Only.set G _ _ _), hB8.setCell (p := ⟨G, v, none⟩) hGlo _⟩
                  case measure => omega
              · obtain rfl : v = P.nv := by omega
                have hrow : Hid (IntsC ms P.nv (fun x => us P.ex x (k + 1) k)) := Lib.hid (hc.out.congr fun j hj => if_pos hj)
                have hown7 := own_only hown6 hon hR
                have hbn := box_not_own hbx hown7
                have hgs7 : Hid (∀ j, j < k → ∃ cs', Box w7 (gs j) 3 cs' ∧ IntsC cs' P.nv (fun x => us P.ex x (j + 1) j) ∧ w.heap.size ≤ gs j) := Lib.hid fun j hj => by
                  obtain ⟨cs', h1, h2, h3, h4⟩ := hgs6.out j hj
                  exact ⟨cs', h1.only hon (Nat.ne_of_lt h4), h2, h3⟩
                have hsz7 := hB7.size
                have hsp7 := hP7.lt
                go_wp2_with (at_builtin; refine wpList_append_own _ rfl _ _ 57 rfl (w.heap.size + 1) 26 i0 (.slice none 0 0) 1 24 Try.underlying57 ji jz0 jz1 jz2 rfl (by decide) _ k _ rfl (hown7.alloc _) ⟨w7.heap.size, 0, none⟩ 1 1 [.slice (some ⟨G, 0, none⟩) P.nv P.nv] rfl rfl (cell_one_new _ _ _) (one_sl _ _ _) (by unfold maxLen; omega) (by omega) (by simp; omega) ?_; intro v8 w8 hown8 hgrow8 _)
                go_roundg (e + 1 - (k + 1))
                case rel =>
                  refine ⟨k + 1, fun j => if j = k then G else gs j, by omega, by go_num, by rw [rowsL_new]; exact hown8, Lib.hid fun j hj => ?_, box_up (hP7.alloc _) hgrow8 (fun z => by have := (hown7.lt _ z.symm).1; omega), (hB7.alloc hB7.size _).grown hgrow8 (by simp; omega) (fun r hr => by have := (hown7.lt r hr).1; omega)⟩
                  by_cases hjk : j = k
                  · subst hjk
                    simp only [if_true]
                    exact ⟨ms, box_up (hbx.alloc _) hgrow8 hbn, hrow.out, hGlo⟩
                  · simp only [if_neg hjk]
                    obtain ⟨cs', h1, h2, h3⟩ := hgs7.out j (by omega)
                    exact ⟨cs', box_up (h1.alloc _) hgrow8 (box_not_own h1 hown7), h2, h3⟩
                case measure => omega
          · skip
            have o10 : P.ex k 0 ≠ 10 := h10
            have gne : (P.ex k 0 != 10) = true := by simp [o10]
            obtain ⟨b0, b1⟩ := hbb o10
            obtain ⟨a2, ha2⟩ : ∃ a2 : Nat, P.ex k 2 = (a2 : Int) := ⟨(P.ex k 2).toNat, by omega⟩
            have hak2 : a2 < k := by omega
            have haki2 : (a2 : Int) < (k : Int) := by omega
            have HZ : Hid (∀ x, min (us P.ex x (a + 1) a + us P.ex x (a2 + 1) a2) 1001 = us P.ex x (k + 1) k) := Lib.hid fun x => by rw [us_at P.ex x k, usV, if_neg o1, if_neg o2, if_neg o10, ha, ha2, Int.toNat_natCast, Int.toNat_natCast, us_old P.ex x hak, us_old P.ex x hak2]
            have HE1 := Lib.hid ha
            have HE2 := Lib.hid ha2
            have HO2 := Lib.hid o2
            have HO1 := Lib.hid o1
            clear h10 o10 hbb hb10 a0 a1 ha o1 o1b o2 b0 b1 ha2
            go_wp2_with fail
            go_loopg [33] P.nv (fun q iv wr => ∃ (v : Nat) (ms : Array Value), v + q = P.nv ∧ iv = .int .i64 (v : Nat) ∧ Hid (IntsC ms P.nv (rwU P.ex k v)) ∧ Box wr G 3 ms ∧ Only G w6 wr ∧ Below w.heap.size w wr)
            case atStart => exact ⟨0, _, by omega, rfl, HB0, hR, Only.refl _ _, hB6⟩
            case round =>
              rename World => w7
              obtain ⟨v, ms, hv, rfl, hc, hbx, hon, hB7⟩ := hrel
              have hV7 := hV6.only hon hVG
              have hP7 := hP6.only hon hPG
              have v0 := hV7.cell 0
              by_cases hv0 : v < P.nv
              · have hown7 := own_only hown6 hon hR
                rcases hown7.2 with ⟨_, h0⟩ | ⟨g, cap, cur, rfl, h5⟩
                · omega
                · have y1 := row_at hown7 (rowsL_get gs P.nv hak)
                  obtain ⟨csa, g1, hca, _, g4⟩ := hgs6.out a hak
                  have y2 := hca.at_ (g1.only hon (Nat.ne_of_lt g4)) hv0
                  have v1 := hV7.cell 1
                  rw [HE1.out] at v1
                  have k0 := hc.out.at_ hbx hv0
                  rw [rw_self, bsU, if_neg (fun z => HO2.out z.1)] at k0
                  have f0 := hbx.free v
                  have hvi : (v : Int) < (P.nv : Int) := by omega
                  obtain ⟨ua, hua⟩ : ∃ ua, ua = us P.ex v (a + 1) a := ⟨_, rfl⟩
                  have hub := us_bound P.ex v (a + 1) a
                  rw [← hua] at y2 hub
                  obtain ⟨u0, u1⟩ := hub
                  have wu : IntKind.i64.wrap ua = ua := IntWalk.i64_in _ (by omega)
                  obtain ⟨w8, hw8⟩ : ∃ w8, w8 = (w7.setCell ⟨G, v, none⟩ (.int .i64 ua)).drew := ⟨_, rfl⟩
                  have hb8 : Box w8 G 3 (ms.setIfInBounds v (.int .i64 ua)) := by rw [hw8]; exact (hbx.set v (.int .i64 ua)).below ((Below.refl _ _).drew) (hbx.set v (.int .i64 ua)).lt
                  have hon8 : Only G w6 w8 := by rw [hw8]; exact hon.trans ((Only.set G w7 v (.int .i64 ua)).trans (Only.below ((Below.refl _ _).drew) (Nat.le_refl _)))
                  have hB8 : Below w.heap.size w w8 := by rw [hw8]; exact (hB7.setCell (p := ⟨G, v, none⟩) hGlo _).drew
                  have hc8 := hc.out.put hv0 ua
                  have HC8 := Lib.hid hc8
                  have HUA := Lib.hid hua
                  clear hc8 h5 hua g1 hca g4
                  go_wp2_with fail
                  go_region
                  all_goals skip
                  rw [← hw8]
                  have k8 := HC8.out.at_ hb8 hv0
                  rw [if_pos rfl] at k8
                  have f8 := hb8.free v
                  have hV8 := hV6.only hon8 hVG
                  have x0 := hV8.cell 0
                  clear hw8 k0 f0 v0 v1 y1 y2 hbx hV7 hP7 hon hB7
                  have hown8 := own_only hown6 hon8 hR
                  have y1 := row_at hown8 (rowsL_get gs P.nv hak2)
                  obtain ⟨csb, g1, hcb, _, g4⟩ := hgs6.out a2 hak2
                  have y2 := hcb.at_ (g1.only hon8 (Nat.ne_of_lt g4)) hv0
                  have x2 := hV8.cell 2
                  rw [HE2.out] at x2
                  obtain ⟨ub, hub⟩ : ∃ ub, ub = us P.ex v (a2 + 1) a2 := ⟨_, rfl⟩
                  have hbd := us_bound P.ex v (a2 + 1) a2
                  rw [← hub] at y2 hbd
                  obtain ⟨s0, s1⟩ := hbd
                  have wu2 : IntKind.i64.wrap (ua + ub) = ua + ub := IntWalk.i64_in _ (by omega)
                  obtain ⟨w9, hw9⟩ : ∃ w9, w9 = (w8.setCell ⟨G, v, none⟩ (.int .i64 (ua + ub))).drew := ⟨_, rfl⟩
                  have hb9 : Box w9 G 3 ((ms.setIfInBounds v (.int .i64 ua)).setIfInBounds v (.int .i64 (ua + ub))) := by rw [hw9]; exact (hb8.set v (.int .i64 (ua + ub))).below ((Below.refl _ _).drew) (hb8.set v (.int .i64 (ua + ub))).lt
                  have hon9 : Only G w6 w9 := by rw [hw9]; exact hon8.trans ((Only.set G w8 v (.int .i64 (ua + ub))).trans (Only.below ((Below.refl _ _).drew) (Nat.le_refl _)))
                  have hB9 : Below w.heap.size w w9 := by rw [hw9]; exact (hB8.setCell (p := ⟨G, v, none⟩) hGlo _).drew
                  have hc9 := HC8.out.put hv0 (ua + ub)
                  have HC9 := Lib.hid hc9
                  have HUB := Lib.hid hub
                  clear hc9 hub g1 hcb g4
                  go_wp2_with fail
                  go_region
                  all_goals skip
                  rw [← hw9]
                  have k9 := HC9.out.at_ hb9 hv0
                  rw [if_pos rfl] at k9
                  have f9 := hb9.free v
                  have x9 := (hV6.only hon9 hVG).cell 0
                  clear hw9 k8 f8 x0 x2 y1 y2 hb8 hV8 hon8 hB8 HC8 hown8
                  have HS : Hid (IntsC (((ms.setIfInBounds v (.int .i64 ua)).setIfInBounds v (.int .i64 (ua + ub))).setIfInBounds v (.int .i64 (min (ua + ub) 1001))) P.nv (rwU P.ex k (v + 1))) := Lib.hid ((HC9.out.put hv0 _).congr fun j _ => by
                    rw [← rwU_step (show min (ua + ub) 1001 = us P.ex v (k + 1) k by rw [HUA.out, HUB.out]; exact HZ.out v) j]
                    by_cases e9 : j = v
                    · rw [if_pos e9, if_pos e9]
                    · simp only [if_neg e9])
                  go_wp2_with (go_at_call 126; refine (least_any _ _ _).mono ?_; rintro e9 w9 ⟨rfl, rfl⟩)
                  go_roundg (gk - 1)
                  case rel => exact ⟨v + 1, _, by omega, by go_num, HS, hb9.set v _, hon9.trans (Only.set G _ _ _), hB9.setCell (p := ⟨G, v, none⟩) hGlo _⟩
                  case measure => omega
              · obtain rfl : v = P.nv := by omega
                have hrow : Hid (IntsC ms P.nv (fun x => us P.ex x (k + 1) k)) := Lib.hid (hc.out.congr fun j hj => if_pos hj)
                have hown7 := own_only hown6 hon hR
                have hbn := box_not_own hbx hown7
                have hgs7 : Hid (∀ j, j < k → ∃ cs', Box w7 (gs j) 3 cs' ∧ IntsC cs' P.nv (fun x => us P.ex x (j + 1) j) ∧ w.heap.size ≤ gs j) := Lib.hid fun j hj => by
                  obtain ⟨cs', h1, h2, h3, h4⟩ := hgs6.out j hj
                  exact ⟨cs', h1.only hon (Nat.ne_of_lt h4), h2, h3⟩
                have hsz7 := hB7.size
                have hsp7 := hP7.lt
                go_wp2_with (at_builtin; refine wpList_append_own _ rfl _ _ 57 rfl (w.heap.size + 1) 26 i0 (.slice none 0 0) 1 24 Try.underlying57 ji jz0 jz1 jz2 rfl (by decide) _ k _ rfl (hown7.alloc _) ⟨w7.heap.size, 0, none⟩ 1 1 [.slice (some ⟨G, 0, none⟩) P.nv P.nv] rfl rfl (cell_one_new _ _ _) (one_sl _ _ _) (by unfold maxLen; omega) (by omega) (by simp; omega) ?_; intro v8 w8 hown8 hgrow8 _)
                go_roundg (e + 1 - (k + 1))
                case rel =>
                  refine ⟨k + 1, fun j => if j = k then G else gs j, by omega, by go_num, by rw [rowsL_new]; exact hown8, Lib.hid fun j hj => ?_, box_up (hP7.alloc _) hgrow8 (fun z => by have := (hown7.lt _ z.symm).1; omega), (hB7.alloc hB7.size _).grown hgrow8 (by simp; omega) (fun r hr => by have := (hown7.lt r hr).1; omega)⟩
                  by_cases hjk : j = k
                  · subst hjk
                    simp only [if_true]
                    exact ⟨ms, box_up (hbx.alloc _) hgrow8 hbn, hrow.out, hGlo⟩
                  · simp only [if_neg hjk]
                    obtain ⟨cs', h1, h2, h3⟩ := hgs7.out j (by omega)
                    exact ⟨cs', box_up (h1.alloc _) hgrow8 (box_not_own h1 hown7), h2, h3⟩
                case measure => omega
    · obtain rfl : k = e + 1 := by omega
      obtain ⟨cs', hb1, hc1, hg1⟩ := hgs.out e (by omega)
      have hle : ¬ (((e + 1 : Nat) : Int) ≤ (e : Int)) := by omega
      have hle2 : ¬ ((e : Int) + 1 ≤ (e : Int)) := by omega
      have hel : (e : Int) < ((e + 1 : Nat) : Int) := by omega
      rcases hown.2 with ⟨_, h0⟩ | ⟨g, cap, cur, rfl, h5⟩
      · omega
      · have y0 := row_at hown (rowsL_get gs P.nv (Nat.lt_succ_self e))
        have hI : Hid (IntsAt w.heap.size w4 (some ⟨gs e, 0, none⟩) P.nv (fun x => us P.ex x (e + 1) e)) := Lib.hid (IntsAt.of_box hg1 hb1 fun j hj => hc1.2 j hj)
        clear hown h5 hb1 hgs hmk
        go_wp2_with fail
        go_ret
        exact ⟨_, ⟨_, rfl⟩, hI.out, hB⟩

end Go.Proofs.Ytcdgbjklfmlhkaa
