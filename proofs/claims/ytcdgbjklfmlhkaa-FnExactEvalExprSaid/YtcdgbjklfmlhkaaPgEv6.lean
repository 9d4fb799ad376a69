/-
  The values of all expressions, one after another: the program's loop. (Written by gen_pgev5.py.)
-/
import Derived.Test.YtcdgbjklfmlhkaaPgEv5
import Derived.Deep.RegionHeld3
namespace Go.Proofs.Ytcdgbjklfmlhkaa
open Go.RowKit Num

/-- In the round: the expression's own box stands, and the values are as they were or the new one is laid. -/
def KeepX (w : World) (X G : Nat) (xs : Array Value) (cs ds : Array Value) (w' : World) : Prop := Box w' X 133 xs ∧ (Box w' G 3 cs ∨ Box w' G 3 ds) ∧ Below w.heap.size w w'
theorem KeepX.step {w w1 w2 : World} {X G : Nat} {xs cs ds : Array Value} (h : KeepX w X G xs cs ds w1) (hb : Below w1.heap.size w1 w2) : KeepX w X G xs cs ds w2 :=
  ⟨h.1.below hb h.1.lt, h.2.1.elim (fun k => .inl (k.below hb k.lt)) (fun k => .inr (k.below hb k.lt)), h.2.2.trans (hb.mono h.2.2.size)⟩
theorem KeepX.put {w w1 : World} {X G k : Nat} {xs cs : Array Value} {v : Value} (h : KeepX w X G xs cs (cs.setIfInBounds k v) w1) (hX : X ≠ G) (hG : w.heap.size ≤ G) : KeepX w X G xs cs (cs.setIfInBounds k v) (w1.setCell ⟨G, k, none⟩ v) :=
  ⟨h.1.far (Ne.symm hX) _ _, .inr (h.2.1.elim (fun b => b.set k v) (fun b => by
    have := b.set k v
    rwa [Array.setIfInBounds_setIfInBounds] at this)), h.2.2.setCell (p := ⟨G, k, none⟩) hG _⟩
theorem KeepX.two {w w' : World} {X G n k i j : Nat} {a0 a1 a2 a3 : Value} {cs : Array Value} {v : Int} {g : Nat → Int} (h : KeepX w X G #[a0, a1, a2, a3] cs (cs.setIfInBounds k (.int .i64 v)) w') (hc : IntsC cs n g) (hi : i < k) (hj : j < k) (hk : k < n) :
    w'.cell? ⟨X, 0, none⟩ = some a0 ∧ w'.cell? ⟨X, 1, none⟩ = some a1 ∧ w'.cell? ⟨X, 2, none⟩ = some a2 ∧ w'.cell? ⟨G, i, none⟩ = some (.int .i64 (g i)) ∧ w'.cell? ⟨G, j, none⟩ = some (.int .i64 (g j)) ∧ KeepX w X G #[a0, a1, a2, a3] cs (cs.setIfInBounds k (.int .i64 v)) w' := by
  refine ⟨h.1.cell 0, h.1.cell 1, h.1.cell 2, ?_, ?_, h⟩
  · rcases h.2.1 with b | b
    · exact hc.at_ b (by omega)
    · have := (hc.put hk v).at_ b (show i < n by omega)
      rwa [if_neg (by omega)] at this
  · rcases h.2.1 with b | b
    · exact hc.at_ b (by omega)
    · have := (hc.put hk v).at_ b (show j < n by omega)
      rwa [if_neg (by omega)] at this
theorem keepX_of {p0 p1 p2 p3 p4 K : Prop} (h : p0 ∧ p1 ∧ p2 ∧ p3 ∧ p4 ∧ K) : K := h.2.2.2.2.2

set_option maxRecDepth 100000 in
set_option maxHeartbeats 3200000 in
theorem implEv_any (lo lo' : Nat) (Ax Aw : Option Addr) (n cx m cw : Nat) (F : Nat → Nat → Int) (f : Nat → Int) (w : World) (hx : exsOk F m n = true) (hn0 : 0 < n) (hnx : n ≤ 40) (_hnv : m ≤ 5) (hf : ∀ j, j < m → 0 ≤ f j ∧ f j ≤ 20) (h : ExL lo w Ax n F) (hi : IntsAt lo' w Aw m f) :
    Calls Try.prog 57 #[.slice Ax n cx, .slice Aw m cw] w fun r w' => r = .returned (.int .i64 (evs F f n (n - 1))) ∧ Below w.heap.size w w' := by
  have hmk := mk_int n (by omega)
  obtain ⟨G, hG⟩ : ∃ G, G = w.heap.size := ⟨_, rfl⟩
  have hX := Box.new w 3 (madeCells #[.int .i64 0] n)
  rw [← hG] at hX
  have hB := (Below.refl w.heap.size w).alloc (Nat.le_refl _) (.cells (madeCells #[.int .i64 0] n) 3)
  have H := Lib.hid h
  have HI := Lib.hid hi
  have HX := Lib.hid hx
  have HF := Lib.hid hf
  have wn : IntKind.i64.wrap ((n : Int) - 1) = ((n - 1 : Nat) : Int) := by rw [IntWalk.i64_in _ (by omega)]; omega
  clear h hi hx hf
  go_enter Try.func57, Try.ntmps57
  go_upto_region 2 with fail
  rw [← hG]
  have hG2 : w.heap.size ≤ G := by rw [hG]; exact Nat.le_refl _
  obtain ⟨w1, hw1⟩ : ∃ w1, w1 = w.alloc (.cells (madeCells #[.int .i64 0] n) 3) := ⟨_, rfl⟩
  rw [← hw1] at hX hB ⊢
  have HG := Lib.hid hG
  have HWN := Lib.hid wn
  clear hw1 hmk hG wn
  go_wp2_with fail
  go_loopg [13] n (fun q iv wr => ∃ (k : Nat) (cs' : Array Value), k + q = n ∧ iv = .int .i64 (k : Nat) ∧ Hid (IntsC cs' n (evs F f k)) ∧ Box wr G 3 cs' ∧ Below w.heap.size w wr)
  case atStart => exact ⟨0, _, by omega, rfl, Lib.hid (by rw [evs_zero]; exact IntsC.made n), hX, hB⟩
  case round =>
    rename World => w3
    obtain ⟨k, cs3, hk, rfl, hc, hbx, hbel⟩ := hrel
    by_cases hk0 : k < n
    · obtain ⟨b, off, rfl, hb, r0, r1, r2, r3⟩ := (H.out.below hbel (Nat.le_refl _)).1.at_ hk0
      have hkn : (k : Int) < (n : Int) := by omega
      have ho := exsOk_at HX.out hk0
      have hne : w3.heap.size ≠ G := Nat.ne_of_gt hbx.lt
      have g20 := fun j => evs_20 HX.out HF.out (show k ≤ n by omega) j
      by_cases o1 : F k 0 = 1
      · have o1b : (F k 0 == 1) = true := by rw [o1]; rfl
        have HV : Hid (F k 3 = exV (F k 0) (F k 1) (F k 2) (F k 3) (evs F f k) f) := Lib.hid (by simp only [exV, if_pos o1])
        have hV := Box.new w3 133 #[.int .i64 (F k 0), .int .i64 (F k 1), .int .i64 (F k 2), .int .i64 (F k 3)]
        have hal := (Below.refl w3.heap.size w3).alloc (Nat.le_refl _) (.cells #[.int .i64 (F k 0), .int .i64 (F k 1), .int .i64 (F k 2), .int .i64 (F k 3)] 133)
        have v0 := hV.cell 0
        have v1 := hV.cell 1
        have v2 := hV.cell 2
        have v3 := hV.cell 3
        have hbx4 := hbx.alloc (.cells #[.int .i64 (F k 0), .int .i64 (F k 1), .int .i64 (F k 2), .int .i64 (F k 3)] 133)
        have hB4 := hbel.trans (hal.mono hbel.size)
        have k0 := hc.out.at_ hbx4 hk0
        have f0 := hbx4.free k
        clear ho o1 g20
        go_wp2_with fail
        go_roundg (gk - 1)
        case rel => exact ⟨k + 1, _, by omega, by go_num, Lib.hid (by rw [evs_succ, ← HV.out]; exact hc.out.put hk0 _), hbx4.set _ _, hB4.setCell (p := ⟨G, k, none⟩) hG2 _⟩
        case measure => omega
      · have o1b : (F k 0 == 1) = false := beq_eq_false_iff_ne.2 o1
        by_cases o2 : F k 0 = 2
        · have o2b : (F k 0 == 2) = true := by rw [o2]; rfl
          simp only [exOk, if_neg o1, if_pos o2, decide_eq_true_eq] at ho
          obtain ⟨m2, hm2⟩ : ∃ m2 : Nat, F k 3 = (m2 : Int) := ⟨(F k 3).toNat, by omega⟩
          obtain ⟨bw, ow, rfl, hbw, s0⟩ := (HI.out.below hbel (Nat.le_refl _)).at_ (show m2 < m by omega)
          rw [hm2] at r3
          have hV := Box.new w3 133 #[.int .i64 (F k 0), .int .i64 (F k 1), .int .i64 (F k 2), .int .i64 (m2 : Nat)]
          have hal := (Below.refl w3.heap.size w3).alloc (Nat.le_refl _) (.cells #[.int .i64 (F k 0), .int .i64 (F k 1), .int .i64 (F k 2), .int .i64 (m2 : Nat)] 133)
          have v0 := hV.cell 0
          have v1 := hV.cell 1
          have v2 := hV.cell 2
          have v3 := hV.cell 3
          have hbx4 := hbx.alloc (.cells #[.int .i64 (F k 0), .int .i64 (F k 1), .int .i64 (F k 2), .int .i64 (m2 : Nat)] 133)
          have hB4 := hbel.trans (hal.mono hbel.size)
          have k0 := hc.out.at_ hbx4 hk0
          have f0 := hbx4.free k
          have s1 := (hal.cell (p := ⟨bw, ow + m2, none⟩) hbw).trans s0
          have hmm : (m2 : Int) < (m : Int) := by omega
          have HV : Hid (f m2 = exV (F k 0) (F k 1) (F k 2) (F k 3) (evs F f k) f) := Lib.hid (by simp only [exV, if_neg o1, if_pos o2, hm2, Int.toNat_natCast])
          clear ho o1 o2 g20 hm2
          go_wp2_with fail
          go_roundg (gk - 1)
          case rel => exact ⟨k + 1, _, by omega, by go_num, Lib.hid (by rw [evs_succ, ← HV.out]; exact hc.out.put hk0 _), hbx4.set _ _, hB4.setCell (p := ⟨G, k, none⟩) hG2 _⟩
          case measure => omega
        · have o2b : (F k 0 == 2) = false := beq_eq_false_iff_ne.2 o2
          have hab : (3 ≤ F k 0 ∧ F k 0 ≤ 10) ∧ (0 ≤ F k 1 ∧ F k 1 < (k : Int)) ∧ 0 ≤ F k 2 ∧ F k 2 < (k : Int) := by
            by_cases o10 : F k 0 = 10
            · simp only [exOk, if_neg o1, if_neg o2, if_pos o10, decide_eq_true_eq] at ho
              omega
            · simp only [exOk, if_neg o1, if_neg o2, if_neg o10, decide_eq_true_eq] at ho
              omega
          obtain ⟨hop, ⟨ha0, ha1⟩, hb0, hb1⟩ := hab
          obtain ⟨i, hi⟩ : ∃ i : Nat, F k 1 = (i : Int) := ⟨(F k 1).toNat, by omega⟩
          obtain ⟨j, hj⟩ : ∃ j : Nat, F k 2 = (j : Int) := ⟨(F k 2).toNat, by omega⟩
          have hik : i < k := by omega
          have hjk : j < k := by omega
          have hin : (i : Int) < (n : Int) := by omega
          have hjn : (j : Int) < (n : Int) := by omega
          obtain ⟨v, hv⟩ : ∃ v, v = opV (F k 0) (evs F f k i) (evs F f k j) := ⟨_, rfl⟩
          have CO : Hid (∀ W, Calls Try.prog 109 #[.int .i64 (F k 0), .int .i64 (evs F f k i), .int .i64 (evs F f k j)] W fun e w' => e = .returned (.int .i64 v) ∧ W = w') := Lib.hid fun W => by rw [hv]; exact implOp_any _ _ _ W hop (g20 i) (g20 j)
          have HV : Hid (v = exV (F k 0) (F k 1) (F k 2) (F k 3) (evs F f k) f) := Lib.hid (by simp only [exV, if_neg o1, if_neg o2, hi, hj, Int.toNat_natCast]; exact hv)
          rw [hi] at r1
          rw [hj] at r2
          have hV := Box.new w3 133 #[.int .i64 (F k 0), .int .i64 (i : Nat), .int .i64 (j : Nat), .int .i64 (F k 3)]
          have hal := (Below.refl w3.heap.size w3).alloc (Nat.le_refl _) (.cells #[.int .i64 (F k 0), .int .i64 (i : Nat), .int .i64 (j : Nat), .int .i64 (F k 3)] 133)
          have v0 := hV.cell 0
          have v1 := hV.cell 1
          have v2 := hV.cell 2
          have v3 := hV.cell 3
          have hbx4 := hbx.alloc (.cells #[.int .i64 (F k 0), .int .i64 (i : Nat), .int .i64 (j : Nat), .int .i64 (F k 3)] 133)
          have hB4 := hbel.trans (hal.mono hbel.size)
          have k0 := hc.out.at_ hbx4 hk0
          have f0 := hbx4.free k
          generalize hgi : evs F f k i = gi at CO
          generalize hgj : evs F f k j = gj at CO
          have HGI := Lib.hid hgi
          have HGJ := Lib.hid hgj
          have K0 : KeepX w w3.heap.size G #[.int .i64 (F k 0), .int .i64 (i : Nat), .int .i64 (j : Nat), .int .i64 (F k 3)] cs3 (cs3.setIfInBounds k (.int .i64 v)) (w3.alloc (.cells #[.int .i64 (F k 0), .int .i64 (i : Nat), .int .i64 (j : Nat), .int .i64 (F k 3)] 133)) := ⟨hV, .inl hbx4, hB4⟩
          have HK0 := Lib.hid K0
          clear ho o1 o2 g20 hv hop ha0 ha1 hb0 hb1 hgi hgj hV K0 hi hj
          go_upto_region 6 with fail
          generalize hW : World.alloc w3 _ = W at HK0 k0 f0 hbx4 hB4 v0 v1 v2 v3 ⊢
          clear hW v0 v1 v2 v3 r0 r1 r2 r3 hal
          go_region_held3 (fun w' => w'.cell? ⟨w3.heap.size, 0, none⟩ = some (.int .i64 (F k 0)) ∧ w'.cell? ⟨w3.heap.size, 1, none⟩ = some (.int .i64 (i : Nat)) ∧ w'.cell? ⟨w3.heap.size, 2, none⟩ = some (.int .i64 (j : Nat)) ∧ w'.cell? ⟨G, i, none⟩ = some (.int .i64 gi) ∧ w'.cell? ⟨G, j, none⟩ = some (.int .i64 gj) ∧ KeepX w w3.heap.size G #[.int .i64 (F k 0), .int .i64 (i : Nat), .int .i64 (j : Nat), .int .i64 (F k 3)] cs3 (cs3.setIfInBounds k (.int .i64 v)) w')
            ((rw [← HGI.out, ← HGJ.out]; refine KeepX.two ?_ hc.out hik hjk hk0; first | exact HK0.out.step (Below.refl _ W).drew | exact keepX_of (by assumption) | exact KeepX.put (keepX_of (by assumption)) hne hG2))
            (first
              | (go_at_call 109; refine (CO.out _).mono ?_; rintro e w' ⟨rfl, rfl⟩))
          all_goals go_wp2_with fail
          go_roundg (gk - 1)
          case rel =>
            have hb5 := hbx4.set k (.int .i64 v)
            exact ⟨k + 1, _, by omega, by go_num, Lib.hid (by rw [evs_succ, ← HV.out]; exact hc.out.put hk0 v), hb5.below ((Below.refl _ _).drew) hb5.lt, (hB4.setCell (p := ⟨G, k, none⟩) hG2 _).drew⟩
          case measure => omega
    · obtain rfl : k = n := by omega
      have k0 := hc.out.at_ hbx (show k - 1 < k by omega)
      have i1 : ((k - 1 : Nat) : Int) < (k : Int) := by omega
      have wn := HWN.out
      go_wp2_with fail
      go_ret
      exact ⟨rfl, hbel⟩

end Go.Proofs.Ytcdgbjklfmlhkaa
