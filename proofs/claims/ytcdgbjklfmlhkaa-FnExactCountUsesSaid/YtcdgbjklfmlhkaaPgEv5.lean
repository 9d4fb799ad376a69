/-
  The values of all expressions, one after another: the model's loop. (Written by gen_pgev5.py.)
-/
import Derived.Test.YtcdgbjklfmlhkaaPgEv4
import Derived.Laws.MakeOwn
namespace Go.Proofs.Ytcdgbjklfmlhkaa
open Go.RowKit Num

/-- The cells are n ints. -/
def IntsC (cs : Array Value) (n : Nat) (g : Nat → Int) : Prop := cs.size = n ∧ ∀ j, j < n → cs[j]? = some (.int .i64 (g j))
theorem IntsC.made (n : Nat) : IntsC (madeCells #[.int .i64 0] n) n (fun _ => 0) := by
  refine ⟨size_madeCells _ _, fun m hm => ?_⟩
  have h1 : (madeCells #[Value.int .i64 0] n).toList[m]? = some (.int .i64 0) := by rw [toList_madeCells_one, List.getElem?_replicate, if_pos hm]
  rw [← Array.getElem?_toList, h1]
theorem IntsC.put {cs : Array Value} {n k : Nat} {g : Nat → Int} (h : IntsC cs n g) (hk : k < n) (v : Int) : IntsC (cs.setIfInBounds k (.int .i64 v)) n (fun j => if j = k then v else g j) := by
  refine ⟨by rw [Array.size_setIfInBounds]; exact h.1, fun j hj => ?_⟩
  rw [Array.getElem?_setIfInBounds]
  by_cases hjk : k = j
  · subst hjk
    rw [if_pos rfl, if_pos (by rw [h.1]; exact hk)]
    simp only [if_true]
  · rw [if_neg hjk]
    simp only [if_neg (Ne.symm hjk)]
    exact h.2 j hj
theorem IntsC.at_ {cs : Array Value} {n k : Nat} {g : Nat → Int} (h : IntsC cs n g) {w : World} {G : Nat} {t : TypeId} (hb : Box w G t cs) (hk : k < n) : w.cell? ⟨G, k, none⟩ = some (.int .i64 (g k)) := by
  rw [hb.cell]; exact h.2 k hk
theorem evs_succ (F : Nat → Nat → Int) (f : Nat → Int) (k : Nat) : evs F f (k + 1) = fun j => if j = k then exV (F k 0) (F k 1) (F k 2) (F k 3) (evs F f k) f else evs F f k j := by
  funext j
  rw [evs]
theorem evs_zero (F : Nat → Nat → Int) (f : Nat → Int) : evs F f 0 = fun _ => 0 := by
  funext j
  rw [evs]

set_option maxRecDepth 100000 in
set_option maxHeartbeats 3200000 in
theorem specEv_any (lo lo' : Nat) (P : Prg) (Av Ax As Ap Ab Aw : Option Addr) (cv cx cs cp cb cw e : Nat) (f : Nat → Int) (w : World) (hx : exsOk P.ex P.nv P.nx = true) (hnx : P.nx ≤ 40) (hnv : P.nv ≤ 5) (he : e < P.nx) (hf : ∀ j, j < P.nv → 0 ≤ f j ∧ f j ≤ 20) (h : ExL lo w Ax P.nx P.ex) (hi : IntsAt lo' w Aw P.nv f) :
    Calls Try.prog 49 #[.agg #[.slice Av P.nv cv, .slice Ax P.nx cx, .slice As P.ns cs, .slice Ap P.np cp, .slice Ab P.nb cb, .int .i64 P.fuel], .int .i64 (e : Nat), .slice Aw P.nv cw] w fun r w' => r = .returned (.int .i64 (evs P.ex f (e + 1) e)) ∧ Below w.heap.size w w' := by
  have hP := Box.new w 37 #[.slice Av P.nv cv, .slice Ax P.nx cx, .slice As P.ns cs, .slice Ap P.np cp, .slice Ab P.nb cb, .int .i64 P.fuel]
  have hB := (Below.refl w.heap.size w).alloc (Nat.le_refl _) (.cells #[.slice Av P.nv cv, .slice Ax P.nx cx, .slice As P.ns cs, .slice Ap P.np cp, .slice Ab P.nb cb, .int .i64 P.fuel] 37)
  obtain ⟨n, hn⟩ : ∃ n, n = e + 1 := ⟨_, rfl⟩
  have hmk := mk_int n (by omega)
  have wn : IntKind.i64.wrap ((e : Int) + 1) = (n : Int) := by rw [IntWalk.i64_in _ (by omega)]; omega
  obtain ⟨w1, hw1⟩ : ∃ w1, w1 = w.alloc (.cells #[.slice Av P.nv cv, .slice Ax P.nx cx, .slice As P.ns cs, .slice Ap P.np cp, .slice Ab P.nb cb, .int .i64 P.fuel] 37) := ⟨_, rfl⟩
  rw [← hw1] at hP hB
  obtain ⟨G, hG⟩ : ∃ G, G = w.heap.size + 1 := ⟨_, rfl⟩
  have hG1 : w1.heap.size = G := by rw [hw1, hG]; simp
  have hPG : w.heap.size ≠ G := by omega
  have hX := Box.new w1 3 (madeCells #[.int .i64 0] n)
  rw [hG1] at hX
  have hal := (Below.refl w1.heap.size w1).alloc (Nat.le_refl _) (.cells (madeCells #[.int .i64 0] n) 3)
  have hP2 := hP.alloc (.cells (madeCells #[.int .i64 0] n) 3)
  have hB2 := hB.trans (hal.mono hB.size)
  obtain ⟨w2, hw2⟩ : ∃ w2, w2 = w1.alloc (.cells (madeCells #[.int .i64 0] n) 3) := ⟨_, rfl⟩
  rw [← hw2] at hX hP2 hB2
  obtain ⟨q0, q1, q2, q3, q4, q5, qf⟩ := hP.six
  have H := Lib.hid h
  have HI := Lib.hid hi
  have HX := Lib.hid hx
  have HF := Lib.hid hf
  have HN := Lib.hid hn
  have hne : n ≤ P.nx := by omega
  have hen : (e : Int) < (n : Int) := by omega
  clear h hi hx hf hal hP hB hn
  go_enter Try.func49, Try.ntmps49
  go_upto_region 2 with fail
  rw [← hw1, ← hG, ← hw2]
  have HG := Lib.hid hG
  clear hw1 hw2 hmk hG hG1 q0 q1 q2 q3 q4 q5 qf wn
  go_wp2_with fail
  go_loopg [14] n (fun q iv wr => ∃ (k : Nat) (cs' : Array Value), k + q = n ∧ iv = .int .i64 (k : Nat) ∧ Hid (IntsC cs' n (evs P.ex f k)) ∧ Box wr G 3 cs' ∧ Below w.heap.size w wr ∧ Box wr w.heap.size 37 #[.slice Av P.nv cv, .slice Ax P.nx cx, .slice As P.ns cs, .slice Ap P.np cp, .slice Ab P.nb cb, .int .i64 P.fuel])
  case atStart => exact ⟨0, _, by omega, rfl, Lib.hid (by rw [evs_zero]; exact IntsC.made n), hX, hB2, hP2⟩
  case round =>
    rename World => w3
    obtain ⟨k, cs3, hk, rfl, hc, hbx, hbel, hP3⟩ := hrel
    by_cases hk0 : k < n
    · obtain ⟨b, off, rfl, hb, r0, r1, r2, r3⟩ := (H.out.below hbel (Nat.le_refl _)).1.at_ (show k < P.nx by omega)
      obtain ⟨q0, q1, q2, q3, q4, q5, qf⟩ := hP3.six
      have hkx : (k : Int) < (P.nx : Int) := by omega
      have hkn : (k : Int) < (n : Int) := by omega
      have C := Lib.hid (specAp_any 0 lo' (P.ex k 0) (P.ex k 1) (P.ex k 2) (P.ex k 3) (some ⟨G, 0, none⟩) Aw n n P.nv cw k (evs P.ex f k) f w3 (exsOk_at HX.out (by omega)) hk0 (by omega) (by omega) (fun j _ => evs_20 HX.out HF.out (by omega) j) (IntsAt.of_box (Nat.zero_le _) hbx hc.out.2) (HI.out.below hbel (Nat.le_refl _)))
      obtain ⟨v, hv⟩ : ∃ v, v = exV (P.ex k 0) (P.ex k 1) (P.ex k 2) (P.ex k 3) (evs P.ex f k) f := ⟨_, rfl⟩
      rw [← hv] at C
      have HV := Lib.hid hv
      clear hv
      go_wp2_with (go_at_call 100; refine C.out.mono ?_; rintro e5 w5 ⟨rfl, hb5⟩; have hx5 := hbx.below hb5 hbx.lt; have hP5 := hP3.below hb5 hP3.lt; have hB5 := hbel.trans (hb5.mono hbel.size); have k0 := hc.out.at_ hx5 hk0; have f0 := hx5.free k)
      go_roundg (gk - 1)
      case rel =>
        exact ⟨k + 1, _, by omega, by go_num, Lib.hid (by rw [evs_succ, ← HV.out]; exact hc.out.put hk0 v), hx5.set _ _, hB5.setCell (p := ⟨G, k, none⟩) (by rw [HG.out]; exact Nat.le_succ _) _, hP5.far (Ne.symm hPG) _ _⟩
      case measure => omega
    · obtain rfl : k = n := by omega
      have k0 := hc.out.at_ hbx (show e < k by rw [HN.out]; exact Nat.lt_succ_self _)
      go_wp2_with fail
      go_ret
      exact ⟨congrArg (fun z => Ending.returned (.int .i64 (evs P.ex f z e))) HN.out, hbel⟩

end Go.Proofs.Ytcdgbjklfmlhkaa
