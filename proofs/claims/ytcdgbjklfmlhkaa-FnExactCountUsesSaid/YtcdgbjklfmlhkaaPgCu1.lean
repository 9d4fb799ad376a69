/-
  How often a variable occurs: the program's usesOf. (Written by gen_pgcu.py.)
-/
import Derived.Test.YtcdgbjklfmlhkaaPgEv5
import Derived.Test.YtcdgbjklfmlhkaaPgEv2
import Derived.Test.YtcdgbjklfmlhkaaPgVo1
import Derived.Deep.RegionHeld3
namespace Go.Proofs.Ytcdgbjklfmlhkaa
open Go.RowKit Num

/-- How often variable x occurs in an expression, from its operands' counts. -/
def usV (o a b v : Int) (x : Nat) (g : Nat → Int) : Int := if o = 1 then 0 else if o = 2 then (if v = (x : Int) then 1 else 0) else if o = 10 then g a.toNat else min (g a.toNat + g b.toNat) 1001
/-- The counts after k expressions. -/
def us (F : Nat → Nat → Int) (x : Nat) : Nat → Nat → Int
  | 0 => fun _ => 0
  | k + 1 => fun j => if j = k then usV (F k 0) (F k 1) (F k 2) (F k 3) x (us F x k) else us F x k j
theorem us_zero (F : Nat → Nat → Int) (x : Nat) : us F x 0 = fun _ => 0 := rfl
theorem us_succ (F : Nat → Nat → Int) (x k : Nat) : us F x (k + 1) = fun j => if j = k then usV (F k 0) (F k 1) (F k 2) (F k 3) x (us F x k) else us F x k j := rfl
theorem us_beyond (F : Nat → Nat → Int) (x : Nat) : ∀ k j, k ≤ j → us F x k j = 0
  | 0, _, _ => rfl
  | k + 1, j, h => by rw [us_succ]; simp only []; rw [if_neg (by omega)]; exact us_beyond F x k j (by omega)
theorem us_bound (F : Nat → Nat → Int) (x : Nat) : ∀ k j, 0 ≤ us F x k j ∧ us F x k j ≤ 1001
  | 0, _ => ⟨Int.le_refl 0, show (0 : Int) ≤ 1001 by omega⟩
  | k + 1, j => by
    rw [us_succ]
    simp only []
    split
    · have h1 := us_bound F x k (F k 1).toNat
      have h2 := us_bound F x k (F k 2).toNat
      unfold usV
      repeat' split
      all_goals omega
    · exact us_bound F x k j
theorem IntsC.congr {cs : Array Value} {n : Nat} {g h : Nat → Int} (k : IntsC cs n g) (e : ∀ j, j < n → g j = h j) : IntsC cs n h := ⟨k.1, fun j hj => by rw [← e j hj]; exact k.2 j hj⟩

set_option maxRecDepth 100000 in
set_option maxHeartbeats 6400000 in
theorem uses_any (lo : Nat) (Ax : Option Addr) (n cx m x : Nat) (F : Nat → Nat → Int) (w : World) (hx : exsOk F m n = true) (hnx : n ≤ 40) (h : ExL lo w Ax n F) :
    Calls Try.prog 80 #[.int .i64 (x : Nat), .slice Ax n cx] w fun r w' => ∃ G, r = .returned (.slice (some ⟨G, 0, none⟩) n n) ∧ IntsAt w.heap.size w' (some ⟨G, 0, none⟩) n (us F x n) ∧ Below w.heap.size w w' := by
  have hmk := mk_int n (by omega)
  obtain ⟨G, hG⟩ : ∃ G, G = w.heap.size := ⟨_, rfl⟩
  have hX := Box.new w 3 (madeCells #[.int .i64 0] n)
  rw [← hG] at hX
  have hB := (Below.refl w.heap.size w).alloc (Nat.le_refl _) (.cells (madeCells #[.int .i64 0] n) 3)
  have H := Lib.hid h
  have HX := Lib.hid hx
  clear h hx
  go_enter Try.func80, Try.ntmps80
  go_upto_region 2 with fail
  rw [← hG]
  have hG2 : w.heap.size ≤ G := by rw [hG]; exact Nat.le_refl _
  obtain ⟨w1, hw1⟩ : ∃ w1, w1 = w.alloc (.cells (madeCells #[.int .i64 0] n) 3) := ⟨_, rfl⟩
  rw [← hw1] at hX hB ⊢
  clear hw1 hmk hG
  go_wp2_with fail
  go_loopg [13] n (fun q iv wr => ∃ (k : Nat) (cs' : Array Value), k + q = n ∧ iv = .int .i64 (k : Nat) ∧ Hid (IntsC cs' n (us F x k)) ∧ Box wr G 3 cs' ∧ Below w.heap.size w wr)
  case atStart => exact ⟨0, _, by omega, rfl, Lib.hid (by rw [us_zero]; exact IntsC.made n), hX, hB⟩
  case round =>
    rename World => w3
    obtain ⟨k, cs3, hk, rfl, hc, hbx, hbel⟩ := hrel
    by_cases hk0 : k < n
    · obtain ⟨b, off, rfl, hb, r0, r1, r2, r3⟩ := (H.out.below hbel (Nat.le_refl _)).1.at_ hk0
      have hkn : (k : Int) < (n : Int) := by omega
      have hne : w3.heap.size ≠ G := Nat.ne_of_gt hbx.lt
      by_cases o1 : F k 0 = 1
      · have o1b : (F k 0 == 1) = true := by rw [o1]; rfl
        have HV : Hid (us F x k = us F x (k + 1)) := Lib.hid (by
          funext j
          rw [us_succ]
          simp only []
          split
          · next hj => rw [usV, if_pos o1, us_beyond F x k j (by omega)]
          · rfl)
        have hV := Box.new w3 133 #[.int .i64 (F k 0), .int .i64 (F k 1), .int .i64 (F k 2), .int .i64 (F k 3)]
        have hal := (Below.refl w3.heap.size w3).alloc (Nat.le_refl _) (.cells #[.int .i64 (F k 0), .int .i64 (F k 1), .int .i64 (F k 2), .int .i64 (F k 3)] 133)
        have v0 := hV.cell 0
        have v1 := hV.cell 1
        have v2 := hV.cell 2
        have v3 := hV.cell 3
        have hbx4 := hbx.alloc (.cells #[.int .i64 (F k 0), .int .i64 (F k 1), .int .i64 (F k 2), .int .i64 (F k 3)] 133)
        have hB4 := hbel.trans (hal.mono hbel.size)
        have k0 := hc.out.at_ hbx4 hk0
        have f0 := hbx4.free k
        clear o1
        go_wp2_with fail
        go_roundg (gk - 1)
        case rel => exact ⟨k + 1, cs3, by omega, by go_num, Lib.hid (by rw [← HV.out]; exact hc.out), hbx4, hB4⟩
        case measure => omega
      · have o1b : (F k 0 == 1) = false := beq_eq_false_iff_ne.2 o1
        by_cases o2 : F k 0 = 2
        · have o2b : (F k 0 == 2) = true := by rw [o2]; rfl
          have HV : Hid (tr (F k 3 == (x : Int)) = usV (F k 0) (F k 1) (F k 2) (F k 3) x (us F x k)) := Lib.hid (by
            rw [usV, if_neg o1, if_pos o2]
            by_cases e : F k 3 = (x : Int)
            · rw [if_pos e, e]; simp [tr]
            · rw [if_neg e, beq_eq_false_iff_ne.2 e]; rfl)
          have hV := Box.new w3 133 #[.int .i64 (F k 0), .int .i64 (F k 1), .int .i64 (F k 2), .int .i64 (F k 3)]
          have hal := (Below.refl w3.heap.size w3).alloc (Nat.le_refl _) (.cells #[.int .i64 (F k 0), .int .i64 (F k 1), .int .i64 (F k 2), .int .i64 (F k 3)] 133)
          have v0 := hV.cell 0
          have v1 := hV.cell 1
          have v2 := hV.cell 2
          have v3 := hV.cell 3
          have hbx4 := hbx.alloc (.cells #[.int .i64 (F k 0), .int .i64 (F k 1), .int .i64 (F k 2), .int .i64 (F k 3)] 133)
          have hB4 := hbel.trans (hal.mono hbel.size)
          have k0 := hc.out.at_ hbx4 hk0
          have f0 := hbx4.free k
          clear o1 o2
          go_wp2_with (go_at_call 127; refine (truth_any _ _).mono ?_; rintro e w5 ⟨rfl, rfl⟩)
          go_roundg (gk - 1)
          case rel => exact ⟨k + 1, _, by omega, by go_num, Lib.hid (by rw [us_succ, ← HV.out]; exact hc.out.put hk0 _), hbx4.set _ _, hB4.setCell (p := ⟨G, k, none⟩) hG2 _⟩
          case measure => omega
        · have o2b : (F k 0 == 2) = false := beq_eq_false_iff_ne.2 o2
          obtain ⟨⟨a0, a1⟩, hbb, hb10, _, _⟩ := ops_below HX.out hk0 o1 o2
          obtain ⟨a, ha⟩ : ∃ a : Nat, F k 1 = (a : Int) := ⟨(F k 1).toNat, by omega⟩
          have hai : (a : Int) < (n : Int) := by omega
          have han : a < n := by omega
          rw [ha] at r1
          by_cases o10 : F k 0 = 10
          · have o10b : (F k 0 == 10) = true := by rw [o10]; rfl
            have HV : Hid (us F x k a = usV (F k 0) (F k 1) (F k 2) (F k 3) x (us F x k)) := Lib.hid (by rw [usV, if_neg o1, if_neg o2, if_pos o10, ha, Int.toNat_natCast])
            have hV := Box.new w3 133 #[.int .i64 (F k 0), .int .i64 (a : Nat), .int .i64 (F k 2), .int .i64 (F k 3)]
            have hal := (Below.refl w3.heap.size w3).alloc (Nat.le_refl _) (.cells #[.int .i64 (F k 0), .int .i64 (a : Nat), .int .i64 (F k 2), .int .i64 (F k 3)] 133)
            have v0 := hV.cell 0
            have v1 := hV.cell 1
            have v2 := hV.cell 2
            have v3 := hV.cell 3
            have hbx4 := hbx.alloc (.cells #[.int .i64 (F k 0), .int .i64 (a : Nat), .int .i64 (F k 2), .int .i64 (F k 3)] 133)
            have hB4 := hbel.trans (hal.mono hbel.size)
            have k0 := hc.out.at_ hbx4 hk0
            have f0 := hbx4.free k
            have ka := hc.out.at_ hbx4 han
            clear o1 o2 o10 hbb hb10 a0 a1 ha
            go_wp2_with fail
            go_roundg (gk - 1)
            case rel => exact ⟨k + 1, _, by omega, by go_num, Lib.hid (by rw [us_succ, ← HV.out]; exact hc.out.put hk0 _), hbx4.set _ _, hB4.setCell (p := ⟨G, k, none⟩) hG2 _⟩
            case measure => omega
          · have o10b : (F k 0 == 10) = false := beq_eq_false_iff_ne.2 o10
            obtain ⟨b0, b1⟩ := hbb o10
            obtain ⟨b2, hb2⟩ : ∃ b2 : Nat, F k 2 = (b2 : Int) := ⟨(F k 2).toNat, by omega⟩
            have hbi : (b2 : Int) < (n : Int) := by omega
            have hbn : b2 < n := by omega
            rw [hb2] at r2
            have HM : Hid (min (us F x k a + us F x k b2) 1001 = usV (F k 0) (F k 1) (F k 2) (F k 3) x (us F x k)) := Lib.hid (by rw [usV, if_neg o1, if_neg o2, if_neg o10, ha, hb2, Int.toNat_natCast, Int.toNat_natCast])
            obtain ⟨ga0, ga1⟩ := us_bound F x k a
            obtain ⟨gb0, gb1⟩ := us_bound F x k b2
            have wab : IntKind.i64.wrap (us F x k a + us F x k b2) = us F x k a + us F x k b2 := IntWalk.i64_in _ (by omega)
            have hV := Box.new w3 133 #[.int .i64 (F k 0), .int .i64 (a : Nat), .int .i64 (b2 : Nat), .int .i64 (F k 3)]
            have hal := (Below.refl w3.heap.size w3).alloc (Nat.le_refl _) (.cells #[.int .i64 (F k 0), .int .i64 (a : Nat), .int .i64 (b2 : Nat), .int .i64 (F k 3)] 133)
            have v0 := hV.cell 0
            have v1 := hV.cell 1
            have v2 := hV.cell 2
            have v3 := hV.cell 3
            have hbx4 := hbx.alloc (.cells #[.int .i64 (F k 0), .int .i64 (a : Nat), .int .i64 (b2 : Nat), .int .i64 (F k 3)] 133)
            have hB4 := hbel.trans (hal.mono hbel.size)
            have k0 := hc.out.at_ hbx4 hk0
            have f0 := hbx4.free k
            have ka := hc.out.at_ hbx4 han
            have kb := hc.out.at_ hbx4 hbn
            clear o1 o2 o10 hbb hb10 a0 a1 ha b0 b1 hb2
            rcases (show 1001 < us F x k a + us F x k b2 ∨ ¬ (1001 < us F x k a + us F x k b2) by omega) with hgt | hgt
            · have HS := hbx4.set k (.int .i64 1001)
              have HV : Hid ((1001 : Int) = usV (F k 0) (F k 1) (F k 2) (F k 3) x (us F x k)) := Lib.hid (by rw [← HM.out]; omega)
              go_wp2_with fail
              go_region
              all_goals go_wp2_with fail
              go_roundg (gk - 1)
              case rel => exact ⟨k + 1, _, by omega, by go_num, Lib.hid (by rw [us_succ, ← HV.out]; exact hc.out.put hk0 _), HS.below ((Below.refl _ _).drew) HS.lt, (hB4.setCell (p := ⟨G, k, none⟩) hG2 _).drew⟩
              case measure => omega
            · have HS := hbx4.set k (.int .i64 (us F x k a + us F x k b2))
              have HV : Hid (us F x k a + us F x k b2 = usV (F k 0) (F k 1) (F k 2) (F k 3) x (us F x k)) := Lib.hid (by rw [← HM.out]; omega)
              go_wp2_with fail
              go_region
              all_goals go_wp2_with fail
              go_roundg (gk - 1)
              case rel => exact ⟨k + 1, _, by omega, by go_num, Lib.hid (by rw [us_succ, ← HV.out]; exact hc.out.put hk0 _), HS.below ((Below.refl _ _).drew) HS.lt, (hB4.setCell (p := ⟨G, k, none⟩) hG2 _).drew⟩
              case measure => omega
    · obtain rfl : k = n := by omega
      go_wp2_with fail
      go_ret
      exact ⟨G, rfl, IntsAt.of_box hG2 hbx fun j hj => hc.out.2 j hj, hbel⟩

/-- M is the greatest of the first k. -/
def Top (g : Nat → Int) (k : Nat) (M : Int) : Prop := (∀ j, j < k → g j ≤ M) ∧ ∃ j, j < k ∧ g j = M
theorem Top.more {g : Nat → Int} {k : Nat} {M : Int} (h : Top g k M) (hg : g k ≤ M) : Top g (k + 1) M := by
  obtain ⟨j, h1, h2⟩ := h.2
  refine ⟨fun i hi => ?_, j, by omega, h2⟩
  by_cases e : i = k
  · subst e; exact hg
  · exact h.1 i (by omega)
theorem Top.less {g : Nat → Int} {k : Nat} {M : Int} (h : Top g k M) (hg : M < g k) : Top g (k + 1) (g k) := by
  refine ⟨fun i hi => ?_, k, by omega, rfl⟩
  by_cases e : i = k
  · subst e; exact Int.le_refl _
  · have := h.1 i (by omega); omega

theorem top_one (g : Nat → Int) : Top g 1 (g 0) := by
  refine ⟨fun j hj => ?_, 0, by omega, rfl⟩
  obtain rfl : j = 0 := by omega
  exact Int.le_refl _

set_option maxRecDepth 100000 in
set_option maxHeartbeats 3200000 in
theorem max_any (lo : Nat) (A : Option Addr) (n c : Nat) (g : Nat → Int) (w : World) (hn : 1 ≤ n) (hn2 : n ≤ 1048576) (h : IntsAt lo w A n g) :
    Calls Try.prog 81 #[.slice A n c] w fun e w' => ∃ M, e = .returned (.int .i64 M) ∧ Hid (Top g n M) ∧ Below w.heap.size w w' := by
  obtain ⟨b, off, rfl, hs, hc⟩ := h (by omega)
  have HC := Lib.hid hc
  have k0 := hc 0 (by omega)
  rw [Nat.add_zero] at k0
  have n0 : (0 : Int) < (n : Int) := by omega
  have hl := hs.lt
  have n1 : ¬ ((n : Int) < 1) := by omega
  clear hc h hs
  go_enter Try.func81, Try.ntmps81
  go_wp2_with fail
  go_loopg [3, 4] n (fun q mv iv wr => ∃ (k : Nat) (M : Int), (k ≤ n ∧ n ≤ k + q) ∧ 1 ≤ k ∧ mv = .int .i64 M ∧ iv = .int .i64 (k : Nat) ∧ Hid (Top g k M) ∧ Below w.heap.size w wr)
  case atStart => exact ⟨1, g 0, ⟨hn, by omega⟩, Nat.le_refl _, rfl, rfl, Lib.hid (top_one g), Below.refl _ _⟩
  case round =>
    obtain ⟨k, M, hk, hk1, rfl, rfl, hM, hB⟩ := hrel
    by_cases hkn : k < n
    · have kk := (hB.cell (p := ⟨b, off + k, none⟩) hl).trans (HC.out k hkn)
      have hki : (k : Int) < (n : Int) := by omega
      rcases (show M < g k ∨ ¬ (M < g k) by omega) with hg | hg
      · have HT := Lib.hid (hM.out.less hg)
        go_wp2_with fail
        go_roundg (gk - 1)
        case rel => exact ⟨k + 1, _, ⟨by omega, by omega⟩, by omega, rfl, by go_num, HT, hB⟩
        case measure => omega
      · have HT := Lib.hid (hM.out.more (by omega))
        go_wp2_with fail
        go_roundg (gk - 1)
        case rel => exact ⟨k + 1, _, ⟨by omega, by omega⟩, by omega, rfl, by go_num, HT, hB⟩
        case measure => omega
    · obtain rfl : k = n := by omega
      go_wp2_with fail
      go_ret
      exact ⟨M, rfl, hM, hB⟩

end Go.Proofs.Ytcdgbjklfmlhkaa
