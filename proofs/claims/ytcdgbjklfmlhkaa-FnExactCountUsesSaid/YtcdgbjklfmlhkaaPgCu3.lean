/-
  CountUses: the program's. (Written by gen_pgcu3.py.)
-/
import Derived.Test.YtcdgbjklfmlhkaaPgCu1
import Derived.Test.YtcdgbjklfmlhkaaPgVi
namespace Go.Proofs.Ytcdgbjklfmlhkaa
open Go.RowKit Num

/-- The counts of the variables in expression i, as far as the first k are filled in. -/
def cuG (P : Prg) (i k : Nat) : Nat → Int := fun j => if j < k then us P.ex j (i + 1) i else 0
theorem us_stay (F : Nat → Nat → Int) (x i : Nat) : ∀ d, us F x (i + 1 + d) i = us F x (i + 1) i
  | 0 => rfl
  | d + 1 => by
    rw [← us_stay F x i d]
    show us F x ((i + 1 + d) + 1) i = _
    rw [us_succ]
    exact if_neg (by omega)
theorem cu_step {P : Prg} {i k : Nat} {v : Int} (hv : v = us P.ex k P.nx i) (hi : i < P.nx) (j : Nat) : (if j = k then v else cuG P i k j) = cuG P i (k + 1) j := by
  have he : us P.ex k P.nx i = us P.ex k (i + 1) i := by
    have := us_stay P.ex k i (P.nx - (i + 1))
    rwa [show i + 1 + (P.nx - (i + 1)) = P.nx by omega] at this
  unfold cuG
  by_cases hj : j = k
  · subst hj
    rw [if_pos rfl, if_pos (Nat.lt_succ_self _), hv, he]
  · rw [if_neg hj]
    by_cases h1 : j < k
    · rw [if_pos h1, if_pos (by omega)]
    · rw [if_neg h1, if_neg (by omega)]
/-- No variable occurs too often. -/
def Few (P : Prg) (i : Nat) : Prop := ∀ x, x < P.nv → us P.ex x (i + 1) i ≤ 1000
theorem cu_le {P : Prg} {i : Nat} {M : Int} (h : Top (cuG P i P.nv) P.nv M) (f : Few P i) : ¬ ((1000 : Int) < M) := by
  obtain ⟨j, h1, h2⟩ := h.2
  have := f j h1
  rw [cuG, if_pos h1] at h2
  omega
theorem cu_gt {P : Prg} {i : Nat} {M : Int} (h : Top (cuG P i P.nv) P.nv M) (f : ¬ Few P i) : (1000 : Int) < M := by
  obtain ⟨x, hx⟩ := Classical.not_forall.1 f
  obtain ⟨h1, h2⟩ := Classical.not_imp.1 hx
  have h3 := h.1 x h1
  rw [cuG, if_pos h1] at h3
  omega
/-- The arguments are as they must be. -/
def CuOk (P : Prg) (m : Int) : Prop := PgOk P ∧ (0 ≤ m ∧ m < (P.nx : Int)) ∧ Few P m.toNat
open Classical in
noncomputable def cuN (P : Prg) (m : Int) : Nat := if CuOk P m then P.nv else 0
open Classical in
noncomputable def cuB (P : Prg) (m : Int) : Bool := if CuOk P m then true else false
def cuF (P : Prg) (m : Int) : Nat → Int := cuG P m.toNat P.nv
theorem cuN_le (P : Prg) (m : Int) : cuN P m ≤ 1048576 := by
  unfold cuN
  split
  · next h => have : P.nv ≤ 5 := h.1.1.2.2
              omega
  · omega
theorem cu_no {P : Prg} {m : Int} (h : ¬ CuOk P m) : cuN P m = 0 ∧ cuB P m = false := ⟨if_neg h, if_neg h⟩
theorem cu_yes {P : Prg} {m : Int} (h : CuOk P m) : cuN P m = P.nv ∧ cuB P m = true := ⟨if_pos h, if_pos h⟩

set_option maxRecDepth 100000 in
set_option maxHeartbeats 6400000 in
theorem implCu_any1 (lo : Nat) (P : Prg) (Av Ax As Ap Ab : Option Addr) (cv cx cs cp cb : Nat) (m : Int) (w : World) (hs : P.small) (h : PgAt lo w Av Ax As Ap Ab P) (F0 : ¬ PgOk P) :
    Calls Try.prog 31 #[.agg #[.slice Av P.nv cv, .slice Ax P.nx cx, .slice As P.ns cs, .slice Ap P.np cp, .slice Ab P.nb cb, .int .i64 P.fuel], .int .i64 m] w fun e w' => e = .returned (.tuple #[.slice none 0 0, .bool false]) ∧ Below w.heap.size w w' := by
  have hP := Box.new w 37 #[.slice Av P.nv cv, .slice Ax P.nx cx, .slice As P.ns cs, .slice Ap P.np cp, .slice Ab P.nb cb, .int .i64 P.fuel]
  have hB := (Below.refl w.heap.size w).alloc (Nat.le_refl _) (.cells #[.slice Av P.nv cv, .slice Ax P.nx cx, .slice As P.ns cs, .slice Ap P.np cp, .slice Ab P.nb cb, .int .i64 P.fuel] 37)
  obtain ⟨q0, q1, q2, q3, q4, q5, qf⟩ := hP.six
  have H := Lib.hid h
  have HSM := Lib.hid hs
  have CN : Hid (∀ W, _) := Lib.hid fun W => idx_any m (P.nx : Int) W
  clear h hs
  have F := Lib.hid F0
  clear F0
  go_enter Try.func31, Try.ntmps31
  go_wp2_with (first
      | (go_at_call 54
         refine (implValid_any lo P Av _ As Ap Ab cv cx cs cp cb _ HSM.out (H.out.below hB (Nat.le_refl _))).mono ?_
         rintro e w1 ⟨r, rfl, hr, hb⟩
         obtain rfl : r = false := by cases r with | false => rfl | true => exact absurd (hr.out.1 rfl) F.out
         clear q0 q1 q2 q3 q4 q5 qf hr
         replace hP := hP.below hb hP.lt
         replace hB := hB.trans (hb.mono hB.size)
         clear hb
         obtain ⟨q0, q1, q2, q3, q4, q5, qf⟩ := hP.six))
  go_ret2
  exact ⟨rfl, hB⟩

set_option maxRecDepth 100000 in
set_option maxHeartbeats 6400000 in
theorem implCu_any2 (lo : Nat) (P : Prg) (Av Ax As Ap Ab : Option Addr) (cv cx cs cp cb : Nat) (m : Int) (w : World) (hs : P.small) (h : PgAt lo w Av Ax As Ap Ab P) (F0 : PgOk P) (G0 : ¬ (0 ≤ m ∧ m < (P.nx : Int))) :
    Calls Try.prog 31 #[.agg #[.slice Av P.nv cv, .slice Ax P.nx cx, .slice As P.ns cs, .slice Ap P.np cp, .slice Ab P.nb cb, .int .i64 P.fuel], .int .i64 m] w fun e w' => e = .returned (.tuple #[.slice none 0 0, .bool false]) ∧ Below w.heap.size w w' := by
  have hP := Box.new w 37 #[.slice Av P.nv cv, .slice Ax P.nx cx, .slice As P.ns cs, .slice Ap P.np cp, .slice Ab P.nb cb, .int .i64 P.fuel]
  have hB := (Below.refl w.heap.size w).alloc (Nat.le_refl _) (.cells #[.slice Av P.nv cv, .slice Ax P.nx cx, .slice As P.ns cs, .slice Ap P.np cp, .slice Ab P.nb cb, .int .i64 P.fuel] 37)
  obtain ⟨q0, q1, q2, q3, q4, q5, qf⟩ := hP.six
  have H := Lib.hid h
  have HSM := Lib.hid hs
  have CN : Hid (∀ W, _) := Lib.hid fun W => idx_any m (P.nx : Int) W
  clear h hs
  have F := Lib.hid F0
  have hd : decide ((0 : Int) ≤ m ∧ m < (P.nx : Int)) = false := decide_eq_false (by omega)
  rw [hd] at CN
  clear hd F0 G0
  go_enter Try.func31, Try.ntmps31
  go_wp2_with (first
      | (go_at_call 54
         refine (implValid_any lo P Av _ As Ap Ab cv cx cs cp cb _ HSM.out (H.out.below hB (Nat.le_refl _))).mono ?_
         rintro e w1 ⟨r, rfl, hr, hb⟩
         obtain rfl : r = true := hr.out.2 F.out
         clear q0 q1 q2 q3 q4 q5 qf hr
         replace hP := hP.below hb hP.lt
         replace hB := hB.trans (hb.mono hB.size)
         clear hb
         obtain ⟨q0, q1, q2, q3, q4, q5, qf⟩ := hP.six)
      | (go_at_call 55
         refine (CN.out _).mono ?_
         rintro e w2 ⟨rfl, rfl⟩))
  go_ret2
  exact ⟨rfl, hB⟩

set_option maxRecDepth 100000 in
set_option maxHeartbeats 6400000 in
theorem implCu_any3 (lo : Nat) (P : Prg) (Av Ax As Ap Ab : Option Addr) (cv cx cs cp cb : Nat) (m : Int) (w : World) (hs : P.small) (h : PgAt lo w Av Ax As Ap Ab P) (F0 : PgOk P) (G0 : 0 ≤ m ∧ m < (P.nx : Int)) (O0 : ¬ Few P m.toNat) :
    Calls Try.prog 31 #[.agg #[.slice Av P.nv cv, .slice Ax P.nx cx, .slice As P.ns cs, .slice Ap P.np cp, .slice Ab P.nb cb, .int .i64 P.fuel], .int .i64 m] w fun e w' => e = .returned (.tuple #[.slice none 0 0, .bool false]) ∧ Below w.heap.size w w' := by
  have hP := Box.new w 37 #[.slice Av P.nv cv, .slice Ax P.nx cx, .slice As P.ns cs, .slice Ap P.np cp, .slice Ab P.nb cb, .int .i64 P.fuel]
  have hB := (Below.refl w.heap.size w).alloc (Nat.le_refl _) (.cells #[.slice Av P.nv cv, .slice Ax P.nx cx, .slice As P.ns cs, .slice Ap P.np cp, .slice Ab P.nb cb, .int .i64 P.fuel] 37)
  obtain ⟨q0, q1, q2, q3, q4, q5, qf⟩ := hP.six
  have H := Lib.hid h
  have HSM := Lib.hid hs
  have CN : Hid (∀ W, _) := Lib.hid fun W => idx_any m (P.nx : Int) W
  clear h hs
  have F := Lib.hid F0
  have hnv : P.nv ≤ 5 := F0.1.2.2
  have hnv1 : 1 ≤ P.nv := F0.1.2.1
  have hnx := F0.2.1.1
  have HX := Lib.hid F0.2.1.2
  have hd : decide ((0 : Int) ≤ m ∧ m < (P.nx : Int)) = true := decide_eq_true (by omega)
  rw [hd] at CN
  obtain ⟨i, rfl⟩ : ∃ i : Nat, m = (i : Int) := ⟨m.toNat, by omega⟩
  have hi0 : i < P.nx := by omega
  have hii : (i : Int) < (P.nx : Int) := by omega
  have hmk := mk_int P.nv (by omega)
  have HO := Lib.hid O0
  clear hd F0 G0 O0
  go_enter Try.func31, Try.ntmps31
  go_wp2_with (first
      | (go_at_call 54
         refine (implValid_any lo P Av _ As Ap Ab cv cx cs cp cb _ HSM.out (H.out.below hB (Nat.le_refl _))).mono ?_
         rintro e w1 ⟨r, rfl, hr, hb⟩
         obtain rfl : r = true := hr.out.2 F.out
         clear q0 q1 q2 q3 q4 q5 qf hr
         replace hP := hP.below hb hP.lt
         replace hB := hB.trans (hb.mono hB.size)
         clear hb
         obtain ⟨q0, q1, q2, q3, q4, q5, qf⟩ := hP.six
         have p0 := (hP.alloc (.cells (madeCells #[.int .i64 0] P.nv) 3)).cell 0)
      | (go_at_call 55
         refine (CN.out _).mono ?_
         rintro e w2 ⟨rfl, rfl⟩))
  rename World => w1
  have hX := Box.new w1 3 (madeCells #[.int .i64 0] P.nv)
  have hB2 := hB.alloc hB.size (.cells (madeCells #[.int .i64 0] P.nv) 3)
  have hP2 := hP.alloc (.cells (madeCells #[.int .i64 0] P.nv) 3)
  obtain ⟨G, hG⟩ : ∃ G, G = w1.heap.size := ⟨_, rfl⟩
  have hPG : w.heap.size ≠ G := by rw [hG]; exact Nat.ne_of_lt hP.lt
  have hGlo : w.heap.size ≤ G := by rw [hG]; exact hB.size
  rw [← hG] at hX ⊢
  obtain ⟨w2, hw2⟩ : ∃ w2, w2 = w1.alloc (.cells (madeCells #[.int .i64 0] P.nv) 3) := ⟨_, rfl⟩
  rw [← hw2] at hX hB2 hP2 ⊢
  clear hP hB hw2 hG hmk q0 q1 q2 q3 q4 q5 qf p0
  go_loopg [25] P.nv (fun q iv wr => ∃ (k : Nat) (ms : Array Value), k + q = P.nv ∧ iv = .int .i64 (k : Nat) ∧ Hid (IntsC ms P.nv (cuG P i k)) ∧ Box wr G 3 ms ∧ Box wr w.heap.size 37 #[.slice Av P.nv cv, .slice Ax P.nx cx, .slice As P.ns cs, .slice Ap P.np cp, .slice Ab P.nb cb, .int .i64 P.fuel] ∧ Below w.heap.size w wr)
  case atStart => exact ⟨0, _, by omega, rfl, Lib.hid ((IntsC.made P.nv).congr fun j _ => by simp [cuG]), hX, hP2, hB2⟩
  case round =>
    rename World => w4
    obtain ⟨k, ms, hk, rfl, hc, hbx, hP, hB⟩ := hrel
    obtain ⟨q0, q1, q2, q3, q4, q5, qf⟩ := hP.six
    by_cases hk0 : k < P.nv
    · have hkv : (k : Int) < (P.nv : Int) := by omega
      go_wp2_with (go_at_call 80
                   refine (uses_any lo Ax P.nx cx P.nv k P.ex _ HX.out hnx (H.out.below hB (Nat.le_refl _)).x).mono ?_
                   rintro e w5 ⟨G5, rfl, hi5, hb5⟩
                   obtain ⟨b7, off7, e7, hb7, y7⟩ := hi5.at_ hi0
                   cases e7
                   rw [Nat.zero_add] at y7
                   have hbx5 := hbx.below hb5 hbx.lt
                   have hP5 := hP.below hb5 hP.lt
                   have hB5 := hB.trans (hb5.mono hB.size)
                   have k0 := hc.out.at_ hbx5 hk0
                   have f0 := hbx5.free k
                   have HS : Hid (∀ v, v = us P.ex k P.nx i → IntsC (ms.setIfInBounds k (.int .i64 v)) P.nv (cuG P i (k + 1))) := Lib.hid fun v hv => (hc.out.put hk0 v).congr fun j hj => cu_step hv hi0 j
                   clear hb5 hb7 hi5 q0 q1 q2 q3 q4 q5 qf)
      go_roundg (gk - 1)
      case rel => exact ⟨k + 1, _, by omega, by go_num, Lib.hid (HS.out _ rfl), hbx5.set k _, hP5.far (Ne.symm hPG) _ _, hB5.setCell (p := ⟨G, k, none⟩) hGlo _⟩
      case measure => omega
    · obtain rfl : k = P.nv := by omega
      have hI : IntsAt w.heap.size w4 (some ⟨G, 0, none⟩) P.nv (cuG P i P.nv) := IntsAt.of_box hGlo hbx fun j hj => hc.out.2 j hj
      go_wp2_with (go_at_call 81
                   refine (max_any w.heap.size _ P.nv P.nv _ _ hnv1 (by omega) hI).mono ?_
                   rintro e w6 ⟨M, rfl, hT, hb6⟩
                   have hM : (1000 : Int) < M := cu_gt hT.out HO.out
                   clear hT q0 q1 q2 q3 q4 q5 qf)
      go_ret2
      exact ⟨rfl, hB.trans (hb6.mono hB.size)⟩

set_option maxRecDepth 100000 in
set_option maxHeartbeats 6400000 in
theorem implCu_any4 (lo : Nat) (P : Prg) (Av Ax As Ap Ab : Option Addr) (cv cx cs cp cb : Nat) (m : Int) (w : World) (hs : P.small) (h : PgAt lo w Av Ax As Ap Ab P) (F0 : PgOk P) (G0 : 0 ≤ m ∧ m < (P.nx : Int)) (O0 : Few P m.toNat) :
    Calls Try.prog 31 #[.agg #[.slice Av P.nv cv, .slice Ax P.nx cx, .slice As P.ns cs, .slice Ap P.np cp, .slice Ab P.nb cb, .int .i64 P.fuel], .int .i64 m] w fun e w' => ∃ A c, e = .returned (.tuple #[.slice A P.nv c, .bool true]) ∧ IntsAt w.heap.size w' A P.nv (cuF P m) ∧ Below w.heap.size w w' := by
  have hP := Box.new w 37 #[.slice Av P.nv cv, .slice Ax P.nx cx, .slice As P.ns cs, .slice Ap P.np cp, .slice Ab P.nb cb, .int .i64 P.fuel]
  have hB := (Below.refl w.heap.size w).alloc (Nat.le_refl _) (.cells #[.slice Av P.nv cv, .slice Ax P.nx cx, .slice As P.ns cs, .slice Ap P.np cp, .slice Ab P.nb cb, .int .i64 P.fuel] 37)
  obtain ⟨q0, q1, q2, q3, q4, q5, qf⟩ := hP.six
  have H := Lib.hid h
  have HSM := Lib.hid hs
  have CN : Hid (∀ W, _) := Lib.hid fun W => idx_any m (P.nx : Int) W
  clear h hs
  have F := Lib.hid F0
  have hnv : P.nv ≤ 5 := F0.1.2.2
  have hnv1 : 1 ≤ P.nv := F0.1.2.1
  have hnx := F0.2.1.1
  have HX := Lib.hid F0.2.1.2
  have hd : decide ((0 : Int) ≤ m ∧ m < (P.nx : Int)) = true := decide_eq_true (by omega)
  rw [hd] at CN
  obtain ⟨i, rfl⟩ : ∃ i : Nat, m = (i : Int) := ⟨m.toNat, by omega⟩
  have hi0 : i < P.nx := by omega
  have hii : (i : Int) < (P.nx : Int) := by omega
  have hmk := mk_int P.nv (by omega)
  have HO := Lib.hid O0
  clear hd F0 G0 O0
  go_enter Try.func31, Try.ntmps31
  go_wp2_with (first
      | (go_at_call 54
         refine (implValid_any lo P Av _ As Ap Ab cv cx cs cp cb _ HSM.out (H.out.below hB (Nat.le_refl _))).mono ?_
         rintro e w1 ⟨r, rfl, hr, hb⟩
         obtain rfl : r = true := hr.out.2 F.out
         clear q0 q1 q2 q3 q4 q5 qf hr
         replace hP := hP.below hb hP.lt
         replace hB := hB.trans (hb.mono hB.size)
         clear hb
         obtain ⟨q0, q1, q2, q3, q4, q5, qf⟩ := hP.six
         have p0 := (hP.alloc (.cells (madeCells #[.int .i64 0] P.nv) 3)).cell 0)
      | (go_at_call 55
         refine (CN.out _).mono ?_
         rintro e w2 ⟨rfl, rfl⟩))
  rename World => w1
  have hX := Box.new w1 3 (madeCells #[.int .i64 0] P.nv)
  have hB2 := hB.alloc hB.size (.cells (madeCells #[.int .i64 0] P.nv) 3)
  have hP2 := hP.alloc (.cells (madeCells #[.int .i64 0] P.nv) 3)
  obtain ⟨G, hG⟩ : ∃ G, G = w1.heap.size := ⟨_, rfl⟩
  have hPG : w.heap.size ≠ G := by rw [hG]; exact Nat.ne_of_lt hP.lt
  have hGlo : w.heap.size ≤ G := by rw [hG]; exact hB.size
  rw [← hG] at hX ⊢
  obtain ⟨w2, hw2⟩ : ∃ w2, w2 = w1.alloc (.cells (madeCells #[.int .i64 0] P.nv) 3) := ⟨_, rfl⟩
  rw [← hw2] at hX hB2 hP2 ⊢
  clear hP hB hw2 hG hmk q0 q1 q2 q3 q4 q5 qf p0
  go_loopg [25] P.nv (fun q iv wr => ∃ (k : Nat) (ms : Array Value), k + q = P.nv ∧ iv = .int .i64 (k : Nat) ∧ Hid (IntsC ms P.nv (cuG P i k)) ∧ Box wr G 3 ms ∧ Box wr w.heap.size 37 #[.slice Av P.nv cv, .slice Ax P.nx cx, .slice As P.ns cs, .slice Ap P.np cp, .slice Ab P.nb cb, .int .i64 P.fuel] ∧ Below w.heap.size w wr)
  case atStart => exact ⟨0, _, by omega, rfl, Lib.hid ((IntsC.made P.nv).congr fun j _ => by simp [cuG]), hX, hP2, hB2⟩
  case round =>
    rename World => w4
    obtain ⟨k, ms, hk, rfl, hc, hbx, hP, hB⟩ := hrel
    obtain ⟨q0, q1, q2, q3, q4, q5, qf⟩ := hP.six
    by_cases hk0 : k < P.nv
    · have hkv : (k : Int) < (P.nv : Int) := by omega
      go_wp2_with (go_at_call 80
                   refine (uses_any lo Ax P.nx cx P.nv k P.ex _ HX.out hnx (H.out.below hB (Nat.le_refl _)).x).mono ?_
                   rintro e w5 ⟨G5, rfl, hi5, hb5⟩
                   obtain ⟨b7, off7, e7, hb7, y7⟩ := hi5.at_ hi0
                   cases e7
                   rw [Nat.zero_add] at y7
                   have hbx5 := hbx.below hb5 hbx.lt
                   have hP5 := hP.below hb5 hP.lt
                   have hB5 := hB.trans (hb5.mono hB.size)
                   have k0 := hc.out.at_ hbx5 hk0
                   have f0 := hbx5.free k
                   have HS : Hid (∀ v, v = us P.ex k P.nx i → IntsC (ms.setIfInBounds k (.int .i64 v)) P.nv (cuG P i (k + 1))) := Lib.hid fun v hv => (hc.out.put hk0 v).congr fun j hj => cu_step hv hi0 j
                   clear hb5 hb7 hi5 q0 q1 q2 q3 q4 q5 qf)
      go_roundg (gk - 1)
      case rel => exact ⟨k + 1, _, by omega, by go_num, Lib.hid (HS.out _ rfl), hbx5.set k _, hP5.far (Ne.symm hPG) _ _, hB5.setCell (p := ⟨G, k, none⟩) hGlo _⟩
      case measure => omega
    · obtain rfl : k = P.nv := by omega
      have hI : IntsAt w.heap.size w4 (some ⟨G, 0, none⟩) P.nv (cuG P i P.nv) := IntsAt.of_box hGlo hbx fun j hj => hc.out.2 j hj
      go_wp2_with (go_at_call 81
                   refine (max_any w.heap.size _ P.nv P.nv _ _ hnv1 (by omega) hI).mono ?_
                   rintro e w6 ⟨M, rfl, hT, hb6⟩
                   have hM : ¬ ((1000 : Int) < M) := cu_le hT.out HO.out
                   clear hT q0 q1 q2 q3 q4 q5 qf)
      go_ret2
      exact ⟨_, _, rfl, hI.below hb6 (Nat.le_refl _), hB.trans (hb6.mono hB.size)⟩

theorem implCu_any (lo : Nat) (P : Prg) (Av Ax As Ap Ab : Option Addr) (cv cx cs cp cb : Nat) (m : Int) (w : World) (hs : P.small) (h : PgAt lo w Av Ax As Ap Ab P) :
    Calls Try.prog 31 #[.agg #[.slice Av P.nv cv, .slice Ax P.nx cx, .slice As P.ns cs, .slice Ap P.np cp, .slice Ab P.nb cb, .int .i64 P.fuel], .int .i64 m] w fun e w' => ∃ A c, e = .returned (.tuple #[.slice A (cuN P m) c, .bool (cuB P m)]) ∧ IntsAt w.heap.size w' A (cuN P m) (cuF P m) ∧ Below w.heap.size w w' := by
  have no : ¬ CuOk P m → Calls Try.prog 31 #[.agg #[.slice Av P.nv cv, .slice Ax P.nx cx, .slice As P.ns cs, .slice Ap P.np cp, .slice Ab P.nb cb, .int .i64 P.fuel], .int .i64 m] w (fun e w' => e = .returned (.tuple #[.slice none 0 0, .bool false]) ∧ Below w.heap.size w w') → Calls Try.prog 31 #[.agg #[.slice Av P.nv cv, .slice Ax P.nx cx, .slice As P.ns cs, .slice Ap P.np cp, .slice Ab P.nb cb, .int .i64 P.fuel], .int .i64 m] w fun e w' => ∃ A c, e = .returned (.tuple #[.slice A (cuN P m) c, .bool (cuB P m)]) ∧ IntsAt w.heap.size w' A (cuN P m) (cuF P m) ∧ Below w.heap.size w w' := fun hn hc => by
    have hy := cu_no hn
    refine hc.mono ?_
    rintro e w' ⟨he, hb⟩
    exact ⟨none, 0, by rw [hy.1, hy.2]; exact he, by rw [hy.1]; exact fun h => absurd h (Nat.lt_irrefl 0), hb⟩
  by_cases F0 : PgOk P
  · by_cases G0 : 0 ≤ m ∧ m < (P.nx : Int)
    · by_cases O0 : Few P m.toNat
      · have hy := cu_yes (P := P) (m := m) ⟨F0, G0, O0⟩
        rw [hy.1, hy.2]
        exact implCu_any4 lo P Av Ax As Ap Ab cv cx cs cp cb m w hs h F0 G0 O0
      · exact no (fun z => O0 z.2.2) (implCu_any3 lo P Av Ax As Ap Ab cv cx cs cp cb m w hs h F0 G0 O0)
    · exact no (fun z => G0 z.2.1) (implCu_any2 lo P Av Ax As Ap Ab cv cx cs cp cb m w hs h F0 G0)
  · exact no (fun z => F0 z.1) (implCu_any1 lo P Av Ax As Ap Ab cv cx cs cp cb m w hs h F0)

end Go.Proofs.Ytcdgbjklfmlhkaa
