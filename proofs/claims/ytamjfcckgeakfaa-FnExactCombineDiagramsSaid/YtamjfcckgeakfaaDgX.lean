/-
  Decision diagrams, the program: the references as a traversal leaves them; whether a list is sorted.
-/
import Derived.Test.YtamjfcckgeakfaaDgW
namespace Go.Proofs.Ytamjfcckgeakfaa
open Go.RowKit Num

theorem isNaN_any (a : Int) (w : World) : Calls Try.prog 94 #[.int .i64 a] w fun e w' => e = .returned (.bool false) ∧ w' = w := by
  have h : (a != a) = false := bne_self_eq_false _
  go_enter Try.func94, Try.ntmps94
  go_wp2_with fail
  go_ret
  exact ⟨rfl, rfl⟩

theorem less_any (a b : Int) (w : World) : Calls Try.prog 87 #[.int .i64 a, .int .i64 b] w fun e w' => e = .returned (.bool (decide (a < b))) ∧ w' = w := by
  go_enter Try.func87, Try.ntmps87
  go_wp2_with (go_at_call 94; refine (isNaN_any _ _).mono ?_; rintro e w1 ⟨rfl, rfl⟩)
  go_ret
  exact ⟨rfl, rfl⟩

set_option maxRecDepth 100000 in
set_option maxHeartbeats 1600000 in
theorem sorted_any (lo : Nat) (A0 : Option Addr) (n c : Nat) (g : Nat → Int) (w : World) (hn : n ≤ 1048576) (h : IntsAt lo w A0 n g) :
    Calls Try.prog 72 #[.slice A0 n c] w (Yd (∀ i, i + 1 < n → g i ≤ g (i + 1)) w) := by
  have H := Lib.hid h; clear h
  have e1 : IntKind.i64.wrap ((n : Int) - 1) = (n : Int) - 1 := IntWalk.i64_in _ (by omega)
  go_enter Try.func72, Try.ntmps72
  go_wp2_with fail
  clear e1
  go_loopg [3] n (fun q iv wr => q ≤ n ∧ iv = .int .i64 ((q : Int) - 1) ∧ Hid (∀ i, q ≤ i + 1 → i + 1 < n → g i ≤ g (i + 1)) ∧ Below w.heap.size w wr)
  case atStart => exact ⟨Nat.le_refl _, rfl, Lib.hid fun i a b => by omega, Below.refl _ _⟩
  case round =>
    obtain ⟨hq, rfl, hs, hbel⟩ := hrel
    by_cases h2 : 2 ≤ gk
    · have d1 : decide ((gk : Int) - 1 > 0) = true := decide_eq_true (by omega)
      have d1' : decide (0 < (gk : Int) - 1) = true := decide_eq_true (by omega)
      obtain ⟨b, off, rfl, hb, r1⟩ := (H.out.below hbel (Nat.le_refl _)).at_ (show gk - 1 < n by omega)
      obtain ⟨b', off', e', _, r0⟩ := (H.out.below hbel (Nat.le_refl _)).at_ (show gk - 2 < n by omega)
      cases e'
      have e1 : (gk : Int) - 1 = ((gk - 1 : Nat) : Int) := by omega
      have e2 : IntKind.i64.wrap (((gk - 1 : Nat) : Int) - 1) = ((gk - 2 : Nat) : Int) := by rw [IntWalk.i64_in _ (by omega)]; omega
      have e3 : IntKind.i64.wrap ((gk : Int) - 1 - 1) = ((gk - 2 : Nat) : Int) := by rw [IntWalk.i64_in _ (by omega)]; omega
      rw [e1]
      rw [e1] at d1 d1'
      clear e1 e3
      have hlt : gk - 1 < n := by omega
      have hlt2 : gk - 2 < n := by omega
      cases ed : decide (g (gk - 1) < g (gk - 2)) with
      | true =>
        have HN : Hid (¬ ∀ i, i + 1 < n → g i ≤ g (i + 1)) := Lib.hid fun h => by
          have h0 := h (gk - 2) (by omega)
          rw [show gk - 2 + 1 = gk - 1 by omega] at h0
          have := of_decide_eq_true ed
          omega
        have CL : ∀ j, Calls Try.prog 87 #[.int .i64 (g (gk - 1)), .int .i64 (g (gk - 2))] (wr.drewN j) fun e w' => e = .returned (.bool true) ∧ w' = wr.drewN j := fun j => by rw [← ed]; exact less_any _ _ _
        clear ed hs
        go_upto_region 4 with fail
        go_quiet (exact Calls.quiet_of_same (CL _))
        go_wp2_with fail
        go_ret
        exact Yd.no HN.out (below_drewN _ hbel)
      | false =>
        have HN : Hid (g (gk - 2) ≤ g (gk - 2 + 1)) := Lib.hid (by
          rw [show gk - 2 + 1 = gk - 1 by omega]
          have := of_decide_eq_false ed
          omega)
        have CL : ∀ j, Calls Try.prog 87 #[.int .i64 (g (gk - 1)), .int .i64 (g (gk - 2))] (wr.drewN j) fun e w' => e = .returned (.bool false) ∧ w' = wr.drewN j := fun j => by rw [← ed]; exact less_any _ _ _
        clear ed
        go_upto_region 4 with fail
        go_quiet (exact Calls.quiet_of_same (CL _))
        go_wp2_with fail
        go_roundg (gk - 1)
        case rel => exact ⟨by omega, by congr 1; omega, Lib.hid fun i a b => by
          by_cases hi : gk ≤ i + 1
          · exact hs.out i hi b
          · obtain rfl : i = gk - 2 := by omega
            exact HN.out, below_drewN _ hbel⟩
        case measure => omega
    · have d1 : decide ((gk : Int) - 1 > 0) = false := decide_eq_false (by omega)
      have d1' : decide (0 < (gk : Int) - 1) = false := decide_eq_false (by omega)
      go_wp2_with fail
      go_ret
      exact Yd.yes (fun i hi => hs.out i (by omega) hi) hbel

theorem own_ints {w : World} {base m c : Nat} {g : Option Addr} {t : TypeId} {lf : List Nat} (h : w.ownsRow base t 1 (.slice g m c) lf.length (lf.map fun (r : Nat) => Value.int .i64 (r : Int))) : m = lf.length ∧ IntsAt base w g lf.length (fun j => ((lf.getD j 0 : Nat) : Int)) := by
  rcases h.2 with ⟨e, h2⟩ | ⟨b, cap', cur, e, h3, h4, h5, h6, h7, h8⟩
  · injection e with e1 e2 e3
    exact ⟨by omega, fun h0 => by omega⟩
  · injection e with e1 e2 e3
    subst e1
    refine ⟨e2, fun h0 => ?_⟩
    have hx : Box w b t cur := h4
    refine ⟨b, 0, rfl, ⟨h3, heap_lt h4, fun _ => hx.free⟩, fun j hj => ?_⟩
    rw [Nat.zero_add, hx.cell, ← Array.getElem?_toList]
    have : (cur.toList.take (lf.length * 1))[j]? = (lf.map fun (r : Nat) => Value.int .i64 (r : Int))[j]? := by rw [h8]
    rw [List.getElem?_take, if_pos (by omega), List.getElem?_map, List.getElem?_eq_getElem hj] at this
    rw [this]
    simp [List.getD, List.getElem?_eq_getElem hj]

set_option maxRecDepth 100000 in
set_option maxHeartbeats 6400000 in
theorem refs_any (lo : Nat) (L : Int) (n c r : Nat) (A0 : Option Addr) (f : Nat → Int) (w : World) (hs : ShpI L n f) (hL : L ≤ 10) (hn : n ≤ 1048576) (hr : r < n + 2) (h0 : IntsAt lo w A0 (n * 3) f) :
    Calls Try.prog 71 #[dgV L A0 n c (r : Nat)] w fun e w' => (∃ g cg, e = .returned (.slice g (Dg.vs (ndl n f) (own (ndl n f)) L.toNat r []).length cg) ∧ IntsAt w.heap.size w' g (Dg.vs (ndl n f) (own (ndl n f)) L.toNat r []).length (fun j => (((Dg.vs (ndl n f) (own (ndl n f)) L.toNat r []).getD j 0 : Nat) : Int))) ∧ Below w.heap.size w w' := by
  have hmm := @run_makeMap Try.prog
  have H0 := Lib.hid h0; clear h0
  have HS := Lib.hid hs; clear hs
  have e0 : ∀ (W : World) (o : Obj), (W.alloc o).heap.size = W.heap.size + 1 := fun W o => by simp
  have hP := ((Box.new w 28 #[.int .i64 L, .slice A0 n c, .int .i64 (r : Nat)]).alloc (.map #[] 0)).alloc (.cells #[.slice A0 n c, .map (some (w.heap.size + 1)), .slice none 0 0] 121)
  have hT := Box.new ((w.alloc (.cells #[.int .i64 L, .slice A0 n c, .int .i64 (r : Nat)] 28)).alloc (.map #[] 0)) 121 #[.slice A0 n c, .map (some (w.heap.size + 1)), .slice none 0 0]
  have hM := MapU.made (w.alloc (.cells #[.int .i64 L, .slice A0 n c, .int .i64 (r : Nat)] 28)) f n
  have hM2 := hM.keep (w' := (((w.alloc (.cells #[.int .i64 L, .slice A0 n c, .int .i64 (r : Nat)] 28)).alloc (.map #[] 0)).alloc (.cells #[.slice A0 n c, .map (some (w.heap.size + 1)), .slice none 0 0] 121))) (Below.heap_alloc _ _ _ hM.lt)
  have hB := (((Below.refl w.heap.size w).alloc (Nat.le_refl _) (.cells #[.int .i64 L, .slice A0 n c, .int .i64 (r : Nat)] 28)).alloc (by simp) (.map #[] 0)).alloc (by simp; omega) (.cells #[.slice A0 n c, .map (some (w.heap.size + 1)), .slice none 0 0] 121)
  rw [e0, e0] at hT
  rw [e0] at hM2
  clear hM
  go_enter Try.func71, Try.ntmps71
  go_wp2_with fail
  clear hmm
  generalize hW : World.alloc _ _ = W3 at hP hT hM2 hB ⊢
  clear hW
  go_loopg [13] n (fun q iv wr => ∃ k : Nat, k + q = n ∧ iv = .int .i64 (k : Nat) ∧ MapU wr (w.heap.size + 1) k n f (fun j => le (ndl n f) (Dg.nd (ndl n f) (j + 2)) k) ∧ Box wr w.heap.size 28 #[.int .i64 L, .slice A0 n c, .int .i64 (r : Nat)] ∧ Box wr (w.heap.size + 1 + 1) 121 #[.slice A0 n c, .map (some (w.heap.size + 1)), .slice none 0 0] ∧ Below w.heap.size w wr)
  case atStart => exact ⟨0, by omega, rfl, hM2, hP, hT, hB⟩
  case round =>
    clear hP hT hM2 hB
    obtain ⟨k, hk, rfl, hM, hP, hT, hB⟩ := hrel
    obtain ⟨q0, q1, q2⟩ := hP.trio
    obtain ⟨t0, t1, t2⟩ := hT.trio
    by_cases hk0 : k < n
    · obtain ⟨b, off, rfl, hb, r0, r1, r2⟩ := (H0.out.below hB (Nat.le_refl _)).trio hk0
      have e2 : IntKind.i64.wrap (2 + (k : Int)) = (k : Int) + 2 := by rw [IntWalk.i64_in _ (by omega)]; omega
      obtain ⟨w5, hrun, hm5, hg5⟩ := MapU.put HS.out hL hn (hM.keep (w' := wr.alloc (.cells #[.int .i64 (f (k * 3)), .int .i64 (f (k * 3 + 1)), .int .i64 (f (k * 3 + 2))] 86)) (Below.heap_alloc _ _ _ hM.lt)) hk0 (by unfold maxLen; omega)
      have hT1 := hT.alloc (.cells #[.int .i64 (f (k * 3)), .int .i64 (f (k * 3 + 1)), .int .i64 (f (k * 3 + 2))] 86)
      have hP1 := hP.alloc (.cells #[.int .i64 (f (k * 3)), .int .i64 (f (k * 3 + 1)), .int .i64 (f (k * 3 + 2))] 86)
      have hT5 := grown_box hg5 hT1 (by simp)
      have hP5 := grown_box hg5 hP1 (by simp)
      have hB5 := grown_below (hB.alloc hB.size (.cells #[.int .i64 (f (k * 3)), .int .i64 (f (k * 3 + 1)), .int .i64 (f (k * 3 + 2))] 86)) hg5 (by rintro k hk; cases hk; omega) (by have := hB.size; simp; omega)
      have hM5 : MapU w5 (w.heap.size + 1) (k + 1) n f (fun j => le (ndl n f) (Dg.nd (ndl n f) (j + 2)) (k + 1)) := hm5
      obtain ⟨s0, s1, s2⟩ := hT1.trio
      clear hm5 hg5 hT1 hP1 hM hP hT hB HS H0
      go_wp2_with fail
      go_roundg (gk - 1)
      case rel => exact ⟨k + 1, by omega, by go_num, hM5, hP5, hT5, hB5⟩
      case measure => omega
    · obtain rfl : k = n := by omega
      have hv : Tv w.heap.size (w.heap.size + 1 + 1) (w.heap.size + 1) k c A0 f w wr [] := ⟨hB, ⟨_, hT, ⟨rfl, .inl ⟨rfl, rfl⟩⟩⟩, by
        have hun : un (ndl k f) [] = fun j => le (ndl k f) (Dg.nd (ndl k f) (j + 2)) k := by funext j; unfold un; rw [if_neg (by simp), ndl_len]
        rw [hun]
        exact hM⟩
      have CV := Lib.hid (visit_any lo L w.heap.size (w.heap.size + 1 + 1) (w.heap.size + 1) k c A0 f w HS.out hL hn (by omega) (by omega) (Nat.le_refl _) H0.out L.toNat r [] wr (Nat.le_refl _) hr (.inr (by omega)) (by
        have : 2 ^ L.toNat ≤ 2 ^ 10 := Nat.pow_le_pow_right (by omega) (by omega)
        simp; omega) hv)
      clear hv hM
      go_upto_region 8 with (go_at_call 86; refine CV.out.mono ?_; rintro e w6 ⟨rfl, hv6, hf6⟩)
      obtain ⟨v6, hT6, hown6⟩ := hv6.box
      obtain ⟨g6, m6, c6, rfl⟩ := own_slice hown6
      obtain ⟨rfl, hI⟩ := own_ints hown6
      have hB6 := hv6.bel
      clear t0 t1 t2 q0 q1 q2 hv6 hown6
      obtain ⟨t0, t1, t2⟩ := hT6.trio
      go_wp2_with fail
      go_ret
      exact ⟨⟨_, _, rfl, hI.low (by omega)⟩, hB6⟩

end Go.Proofs.Ytamjfcckgeakfaa
