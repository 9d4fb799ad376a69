/-
  Intervals of expressions: the model's l5Apply and l5Range. (Written by gen_pgrg4.py.)
-/
import Derived.Test.YtdeilceakhgjlaaPgRg3
namespace Go.Proofs.Ytdeilceakhgjlaa
open Go.RowKit Num

theorem ChAt.duo {lo : Nat} {w : World} {A : Option Addr} {n j : Nat} {ch : Nat → Int × Int} (h : ChAt lo w A n ch) (hj : j < n) : ∃ b off, A = some ⟨b, off, none⟩ ∧ b < w.heap.size ∧ w.cell? ⟨b, off + j * 2, none⟩ = some (.int .i64 (ch j).1) ∧ w.cell? ⟨b, off + j * 2 + 1, none⟩ = some (.int .i64 (ch j).2) := h.at_ hj
/-- The operands' boxes and the result's. -/
def KeepT (w : World) (a b : Nat) (a0 a1 b0 b1 : Value) (t : TypeId) (x y : Value) (w' : World) : Prop := Box w' a t #[a0, a1] ∧ Box w' b t #[b0, b1] ∧ KeepR w (w.heap.size + 2) t x y w'
theorem KeepT.step {w w1 w2 : World} {a b : Nat} {a0 a1 b0 b1 x y : Value} {t : TypeId} (h : KeepT w a b a0 a1 b0 b1 t x y w1) (hb : Below w1.heap.size w1 w2) : KeepT w a b a0 a1 b0 b1 t x y w2 := ⟨h.1.below hb h.1.lt, h.2.1.below hb h.2.1.lt, h.2.2.step hb⟩
theorem KeepT.put {w w1 : World} {a b : Nat} {a0 a1 b0 b1 x y : Value} {t : TypeId} (h : KeepT w a b a0 a1 b0 b1 t x y w1) (ha : w.heap.size + 2 < a) (hb : w.heap.size + 2 < b) : KeepT w a b a0 a1 b0 b1 t x y ((w1.setCell ⟨w.heap.size + 2, 0, none⟩ x).setCell ⟨w.heap.size + 2, 1, none⟩ y) :=
  ⟨(h.1.far (by omega) _ _).far (by omega) _ _, (h.2.1.far (by omega) _ _).far (by omega) _ _, h.2.2.put (by omega)⟩
theorem KeepT.cells {w w' : World} {a b : Nat} {a0 a1 b0 b1 x y : Value} {t : TypeId} (h : KeepT w a b a0 a1 b0 b1 t x y w') : w'.cell? ⟨a, 0, none⟩ = some a0 ∧ w'.cell? ⟨a, 1, none⟩ = some a1 ∧ w'.cell? ⟨b, 0, none⟩ = some b0 ∧ w'.cell? ⟨b, 1, none⟩ = some b1 ∧ KeepT w a b a0 a1 b0 b1 t x y w' := ⟨h.1.cell 0, h.1.cell 1, h.2.1.cell 0, h.2.1.cell 1, h⟩

set_option maxRecDepth 100000 in
set_option maxHeartbeats 6400000 in
theorem apply5_any (_lo lo' : Nat) (P : Prg) (Av Ax As Ap Ab A1 : Option Addr) (cv cx cs cp cb c1 n1 k : Nat) (op a b v : Int) (g : Nat → Int × Int) (w : World) (ho : exOk op a b v k P.nv = true) (hk : k < n1) (_hn1 : n1 ≤ 1000) (_hnv : P.nv ≤ 5) (hv : ∀ j, j < P.nv → 1 ≤ P.vz j ∧ P.vz j ≤ 21) (hg : ∀ j, IvOk (g j)) (hc : ∀ j, j < k → ∃ bb off, A1 = some ⟨bb, off, none⟩ ∧ bb < w.heap.size ∧ w.cell? ⟨bb, off + j * 2, none⟩ = some (.int .i64 (g j).1) ∧ w.cell? ⟨bb, off + j * 2 + 1, none⟩ = some (.int .i64 (g j).2)) (hi : VrAt lo' w Av P.nv P.vn P.vz) :
    Calls Try.prog 62 #[.agg #[.slice Av P.nv cv, .slice Ax P.nx cx, .slice As P.ns cs, .slice Ap P.np cp, .slice Ab P.nb cb, .int .i64 P.fuel], .agg #[.int .i64 op, .int .i64 a, .int .i64 b, .int .i64 v], .slice A1 n1 c1] w fun e w' => e = .returned (.agg #[.int .i64 (exR op a b v g P.vz).1, .int .i64 (exR op a b v g P.vz).2]) ∧ Below w.heap.size w w' := by
  by_cases o1 : op = 1
  · have hv : exR op a b v g P.vz = (v, v) := by rw [exR, if_pos o1]
    rw [hv]
    have e1 : (op == 1) = true := by rw [o1]; rfl
    obtain ⟨w3, hw3⟩ : ∃ w3, w3 = ((w.alloc (.cells #[.slice Av P.nv cv, .slice Ax P.nx cx, .slice As P.ns cs, .slice Ap P.np cp, .slice Ab P.nb cb, .int .i64 P.fuel] 37)).alloc (.cells #[.int .i64 op, .int .i64 a, .int .i64 b, .int .i64 v] 103)).alloc (.cells #[.int .i64 0, .int .i64 0] 59) := ⟨_, rfl⟩
    have hP : Box w3 w.heap.size 37 #[.slice Av P.nv cv, .slice Ax P.nx cx, .slice As P.ns cs, .slice Ap P.np cp, .slice Ab P.nb cb, .int .i64 P.fuel] := by rw [hw3]; exact ((Box.new w 37 #[.slice Av P.nv cv, .slice Ax P.nx cx, .slice As P.ns cs, .slice Ap P.np cp, .slice Ab P.nb cb, .int .i64 P.fuel]).alloc _).alloc _
    have hX : Box w3 (w.heap.size + 1) 103 #[.int .i64 op, .int .i64 a, .int .i64 b, .int .i64 v] := by
      have := (Box.new (w.alloc (.cells #[.slice Av P.nv cv, .slice Ax P.nx cx, .slice As P.ns cs, .slice Ap P.np cp, .slice Ab P.nb cb, .int .i64 P.fuel] 37)) 103 #[.int .i64 op, .int .i64 a, .int .i64 b, .int .i64 v]).alloc (.cells #[.int .i64 0, .int .i64 0] 59)
      rw [World.size_alloc] at this
      rw [hw3]; exact this
    have hR : Box w3 (w.heap.size + 2) 59 #[.int .i64 0, .int .i64 0] := by
      have := Box.new ((w.alloc (.cells #[.slice Av P.nv cv, .slice Ax P.nx cx, .slice As P.ns cs, .slice Ap P.np cp, .slice Ab P.nb cb, .int .i64 P.fuel] 37)).alloc (.cells #[.int .i64 op, .int .i64 a, .int .i64 b, .int .i64 v] 103)) 59 #[.int .i64 0, .int .i64 0]
      rw [World.size_alloc, World.size_alloc] at this
      rw [hw3]; exact this
    have hB : Below w.heap.size w w3 := by rw [hw3]; exact (((Below.refl _ w).alloc (Nat.le_refl _) _).alloc (by simp) _).alloc (by simp; omega) _
    have hz3 : w3.heap.size = w.heap.size + 3 := by rw [hw3]; simp
    have x0 := hX.cell 0
    have x1 := hX.cell 1
    have x2 := hX.cell 2
    have x3 := hX.cell 3
    obtain ⟨r0, r1, rf⟩ := hR.duo
    clear ho hc hi hv o1
    go_enter Try.func62, Try.ntmps62
    go_upto_region 1 with fail
    rw [← hw3]
    clear hw3
    go_wp2_with fail
    have hF := (hR.set 0 (.int .i64 (v))).set 1 (.int .i64 (v))
    have k0 := hF.cell 0
    have k1 := hF.cell 1
    exact bodyPost_ret (v := .agg #[.int .i64 (v), .int .i64 (v)]) (by simp [results, Try.results62, go_sem, k0, k1]; done) rfl ⟨rfl, (hB.setCell (p := ⟨w.heap.size + 2, 0, none⟩) (by show w.heap.size ≤ w.heap.size + 2; omega) _).setCell (p := ⟨w.heap.size + 2, 1, none⟩) (by show w.heap.size ≤ w.heap.size + 2; omega) _⟩
  · have e1 : (op == 1) = false := beq_eq_false_iff_ne.2 o1
    by_cases o2 : op = 2
    · have e2 : (op == 2) = true := by rw [o2]; rfl
      simp only [exOk, if_neg o1, if_pos o2, decide_eq_true_eq] at ho
      obtain ⟨m, rfl⟩ : ∃ m : Nat, v = (m : Int) := ⟨v.toNat, by omega⟩
      have hm : m < P.nv := by omega
      have hmi : (m : Int) < (P.nv : Int) := by omega
      obtain ⟨bw, ow, rfl, hbw, s0, s1⟩ := hi.at_ hm
      have hz := hv m hm
      have wz : IntKind.i64.wrap (P.vz m - 1) = P.vz m - 1 := IntWalk.i64_in _ (by omega)
      have he : exR op a b (m : Nat) g P.vz = (0, P.vz m - 1) := by rw [exR, if_neg o1, if_pos o2, Int.toNat_natCast]
      rw [he]
      obtain ⟨w3, hw3⟩ : ∃ w3, w3 = ((w.alloc (.cells #[.slice (some ⟨bw, ow, none⟩) P.nv cv, .slice Ax P.nx cx, .slice As P.ns cs, .slice Ap P.np cp, .slice Ab P.nb cb, .int .i64 P.fuel] 37)).alloc (.cells #[.int .i64 op, .int .i64 a, .int .i64 b, .int .i64 (m : Nat)] 103)).alloc (.cells #[.int .i64 0, .int .i64 0] 59) := ⟨_, rfl⟩
      have hP : Box w3 w.heap.size 37 #[.slice (some ⟨bw, ow, none⟩) P.nv cv, .slice Ax P.nx cx, .slice As P.ns cs, .slice Ap P.np cp, .slice Ab P.nb cb, .int .i64 P.fuel] := by rw [hw3]; exact ((Box.new w 37 #[.slice (some ⟨bw, ow, none⟩) P.nv cv, .slice Ax P.nx cx, .slice As P.ns cs, .slice Ap P.np cp, .slice Ab P.nb cb, .int .i64 P.fuel]).alloc _).alloc _
      have hX : Box w3 (w.heap.size + 1) 103 #[.int .i64 op, .int .i64 a, .int .i64 b, .int .i64 (m : Nat)] := by
        have := (Box.new (w.alloc (.cells #[.slice (some ⟨bw, ow, none⟩) P.nv cv, .slice Ax P.nx cx, .slice As P.ns cs, .slice Ap P.np cp, .slice Ab P.nb cb, .int .i64 P.fuel] 37)) 103 #[.int .i64 op, .int .i64 a, .int .i64 b, .int .i64 (m : Nat)]).alloc (.cells #[.int .i64 0, .int .i64 0] 59)
        rw [World.size_alloc] at this
        rw [hw3]; exact this
      have hR : Box w3 (w.heap.size + 2) 59 #[.int .i64 0, .int .i64 0] := by
        have := Box.new ((w.alloc (.cells #[.slice (some ⟨bw, ow, none⟩) P.nv cv, .slice Ax P.nx cx, .slice As P.ns cs, .slice Ap P.np cp, .slice Ab P.nb cb, .int .i64 P.fuel] 37)).alloc (.cells #[.int .i64 op, .int .i64 a, .int .i64 b, .int .i64 (m : Nat)] 103)) 59 #[.int .i64 0, .int .i64 0]
        rw [World.size_alloc, World.size_alloc] at this
        rw [hw3]; exact this
      have hB : Below w.heap.size w w3 := by rw [hw3]; exact (((Below.refl _ w).alloc (Nat.le_refl _) _).alloc (by simp) _).alloc (by simp; omega) _
      have hz3 : w3.heap.size = w.heap.size + 3 := by rw [hw3]; simp
      have x0 := hX.cell 0
      have x1 := hX.cell 1
      have x2 := hX.cell 2
      have x3 := hX.cell 3
      obtain ⟨r0, r1, rf⟩ := hR.duo
      have p0 := hP.cell 0
      have s1' := (hB.cell (p := ⟨bw, ow + m * 2 + 1, none⟩) hbw).trans s1
      clear ho hc hi hv hz o1 o2 he s0 s1
      go_enter Try.func62, Try.ntmps62
      go_upto_region 1 with fail
      rw [← hw3]
      clear hw3
      go_wp2_with fail
      have hF := (hR.set 0 (.int .i64 (0))).set 1 (.int .i64 (P.vz m - 1))
      have k0 := hF.cell 0
      have k1 := hF.cell 1
      exact bodyPost_ret (v := .agg #[.int .i64 (0), .int .i64 (P.vz m - 1)]) (by simp [results, Try.results62, go_sem, k0, k1]; done) rfl ⟨rfl, (hB.setCell (p := ⟨w.heap.size + 2, 0, none⟩) (by show w.heap.size ≤ w.heap.size + 2; omega) _).setCell (p := ⟨w.heap.size + 2, 1, none⟩) (by show w.heap.size ≤ w.heap.size + 2; omega) _⟩
    · have e2 : (op == 2) = false := beq_eq_false_iff_ne.2 o2
      have hab : (3 ≤ op ∧ op ≤ 10) ∧ (0 ≤ a ∧ a < (k : Int)) ∧ 0 ≤ b ∧ b < (k : Int) := by
        by_cases o10 : op = 10
        · simp only [exOk, if_neg o1, if_neg o2, if_pos o10, decide_eq_true_eq] at ho
          omega
        · simp only [exOk, if_neg o1, if_neg o2, if_neg o10, decide_eq_true_eq] at ho
          omega
      obtain ⟨hop, ⟨ha0, ha1⟩, hb0, hb1⟩ := hab
      obtain ⟨i, rfl⟩ : ∃ i : Nat, a = (i : Int) := ⟨a.toNat, by omega⟩
      obtain ⟨j, rfl⟩ : ∃ j : Nat, b = (j : Int) := ⟨b.toNat, by omega⟩
      have hin : (i : Int) < (n1 : Int) := by omega
      have hjn : (j : Int) < (n1 : Int) := by omega
      obtain ⟨bb, off, rfl, hbb, s0, s1⟩ := hc i (by omega)
      obtain ⟨bb', off', e', _, u0, u1⟩ := hc j (by omega)
      injection e' with e'
      injection e' with ee1 ee2 _
      subst ee1 ee2
      rw [opR_var o1 o2, Int.toNat_natCast, Int.toNat_natCast]
      have gi := hg i
      have gj := hg j
      obtain ⟨al, ah, hgi⟩ : ∃ al ah, g i = (al, ah) := ⟨_, _, rfl⟩
      obtain ⟨bl, bh, hgj⟩ : ∃ bl bh, g j = (bl, bh) := ⟨_, _, rfl⟩
      rw [hgi] at s0 s1 gi ⊢
      rw [hgj] at u0 u1 gj ⊢
      dsimp only at s0 s1 u0 u1 ⊢
      clear hgi hgj hc hi hv hg ho ha0 ha1 hb0 hb1
      obtain ⟨w3, hw3⟩ : ∃ w3, w3 = ((w.alloc (.cells #[.slice Av P.nv cv, .slice Ax P.nx cx, .slice As P.ns cs, .slice Ap P.np cp, .slice Ab P.nb cb, .int .i64 P.fuel] 37)).alloc (.cells #[.int .i64 op, .int .i64 (i : Nat), .int .i64 (j : Nat), .int .i64 v] 103)).alloc (.cells #[.int .i64 0, .int .i64 0] 59) := ⟨_, rfl⟩
      have hP : Box w3 w.heap.size 37 #[.slice Av P.nv cv, .slice Ax P.nx cx, .slice As P.ns cs, .slice Ap P.np cp, .slice Ab P.nb cb, .int .i64 P.fuel] := by rw [hw3]; exact ((Box.new w 37 #[.slice Av P.nv cv, .slice Ax P.nx cx, .slice As P.ns cs, .slice Ap P.np cp, .slice Ab P.nb cb, .int .i64 P.fuel]).alloc _).alloc _
      have hX : Box w3 (w.heap.size + 1) 103 #[.int .i64 op, .int .i64 (i : Nat), .int .i64 (j : Nat), .int .i64 v] := by
        have := (Box.new (w.alloc (.cells #[.slice Av P.nv cv, .slice Ax P.nx cx, .slice As P.ns cs, .slice Ap P.np cp, .slice Ab P.nb cb, .int .i64 P.fuel] 37)) 103 #[.int .i64 op, .int .i64 (i : Nat), .int .i64 (j : Nat), .int .i64 v]).alloc (.cells #[.int .i64 0, .int .i64 0] 59)
        rw [World.size_alloc] at this
        rw [hw3]; exact this
      have hR : Box w3 (w.heap.size + 2) 59 #[.int .i64 0, .int .i64 0] := by
        have := Box.new ((w.alloc (.cells #[.slice Av P.nv cv, .slice Ax P.nx cx, .slice As P.ns cs, .slice Ap P.np cp, .slice Ab P.nb cb, .int .i64 P.fuel] 37)).alloc (.cells #[.int .i64 op, .int .i64 (i : Nat), .int .i64 (j : Nat), .int .i64 v] 103)) 59 #[.int .i64 0, .int .i64 0]
        rw [World.size_alloc, World.size_alloc] at this
        rw [hw3]; exact this
      have hB : Below w.heap.size w w3 := by rw [hw3]; exact (((Below.refl _ w).alloc (Nat.le_refl _) _).alloc (by simp) _).alloc (by simp; omega) _
      have hz3 : w3.heap.size = w.heap.size + 3 := by rw [hw3]; simp
      have x0 := hX.cell 0
      have x1 := hX.cell 1
      have x2 := hX.cell 2
      have x3 := hX.cell 3
      obtain ⟨r0, r1, rf⟩ := hR.duo
      have t0 := (hB.cell (p := ⟨bb, off + i * 2, none⟩) hbb).trans s0
      have t1 := (hB.cell (p := ⟨bb, off + i * 2 + 1, none⟩) hbb).trans s1
      have t2 := (hB.cell (p := ⟨bb, off + j * 2, none⟩) hbb).trans u0
      have t3 := (hB.cell (p := ⟨bb, off + j * 2 + 1, none⟩) hbb).trans u1
      have hA := Box.new w3 59 #[.int .i64 al, .int .i64 ah]
      rw [hz3] at hA
      have ha4 := (Below.refl w3.heap.size w3).alloc (Nat.le_refl _) (.cells #[.int .i64 al, .int .i64 ah] 59)
      have CK : Hid (∀ p W, _) := Lib.hid fun p W => known_any p W
      have CY : Hid (∀ a b W, _) := Lib.hid fun a b W => yes_any a b W
      have CN : Hid (∀ a b W, _) := Lib.hid fun a b W => no_any a b W
      have CL : Hid (∀ a b W, _) := Lib.hid fun a b W => least_any a b W
      have CM : Hid (∀ a b W, _) := Lib.hid fun a b W => most3_any a b W
      obtain ⟨w4, hw4⟩ : ∃ w4, w4 = w3.alloc (.cells #[.int .i64 al, .int .i64 ah] 59) := ⟨_, rfl⟩
      have hbb4 : bb < w4.heap.size := by have := hB.size; have := ha4.size; rw [hw4]; omega
      have hz4 : w4.heap.size = w.heap.size + 4 := by rw [hw4]; simp [hz3]
      have hX4 := hX.alloc (.cells #[.int .i64 al, .int .i64 ah] 59)
      have hR4 := hR.alloc (.cells #[.int .i64 al, .int .i64 ah] 59)
      have hB4 := hB.trans (ha4.mono hB.size)
      rw [← hw4] at hA hX4 hR4 hB4 ha4
      have t2' := (ha4.cell (p := ⟨bb, off + j * 2, none⟩) (by have := hB.size; show bb < w3.heap.size; omega)).trans t2
      have t3' := (ha4.cell (p := ⟨bb, off + j * 2 + 1, none⟩) (by have := hB.size; show bb < w3.heap.size; omega)).trans t3
      clear s0 s1 u0 u1 t2 t3 hR hP r0 r1 rf
      by_cases o10 : op = 10
      · subst o10
        obtain ⟨gi1, gi2, gi3⟩ := gi
        dsimp only at gi1 gi2 gi3
        clear o1 o2 hop e1 e2
        by_cases hz1 : 0 < al
        · skip
          have y1 : decide (0 < al) = true := decide_eq_true (by omega)
          rw [opR10 al ah bl bh false false (Bool.eq_false_iff.2 fun h => by first | (simp at h; done) | (simp at h; omega)) (Bool.eq_false_iff.2 fun h => by first | (simp at h; done) | (simp at h; omega))]
          clear gi1 gi2 gi3 gj t2' t3'
          try clear hz1
          try clear hz2
          go_enter Try.func62, Try.ntmps62
          go_upto_region 1 with fail
          rw [← hw3]
          clear hw3
          go_upto_region 7 with fail
          rw [← hw4]
          clear hw4 x0 x1 x2 x3 t0 t1
          have x0 := hX4.cell 0
          have x1 := hX4.cell 1
          have x2 := hX4.cell 2
          have x3 := hX4.cell 3
          obtain ⟨a0, a1, af⟩ := hA.duo
          obtain ⟨r0, r1, rf⟩ := hR4.duo
          go_wp2_with (first | (go_at_call 89; refine (CK.out _ _).mono ?_; rintro e w' ⟨rfl, hb⟩; clear x0 x1 x2 x3 a0 a1 af r0 r1 rf; replace hA := hA.below hb hA.lt; replace hX4 := hX4.below hb hX4.lt; replace hR4 := hR4.below hb hR4.lt; replace hB4 := hB4.trans (hb.mono hB4.size); have x0 := hX4.cell 0; have x1 := hX4.cell 1; have x2 := hX4.cell 2; have x3 := hX4.cell 3; obtain ⟨a0, a1, af⟩ := hA.duo; obtain ⟨r0, r1, rf⟩ := hR4.duo) | (go_at_call 88; refine (CY.out _ _ _).mono ?_; rintro e w' ⟨rfl, hb⟩; clear x0 x1 x2 x3 a0 a1 af r0 r1 rf; replace hA := hA.below hb hA.lt; replace hX4 := hX4.below hb hX4.lt; replace hR4 := hR4.below hb hR4.lt; replace hB4 := hB4.trans (hb.mono hB4.size); have x0 := hX4.cell 0; have x1 := hX4.cell 1; have x2 := hX4.cell 2; have x3 := hX4.cell 3; obtain ⟨a0, a1, af⟩ := hA.duo; obtain ⟨r0, r1, rf⟩ := hR4.duo) | (go_at_call 90; refine (CN.out _ _ _).mono ?_; rintro e w' ⟨rfl, hb⟩; clear x0 x1 x2 x3 a0 a1 af r0 r1 rf; replace hA := hA.below hb hA.lt; replace hX4 := hX4.below hb hX4.lt; replace hR4 := hR4.below hb hR4.lt; replace hB4 := hB4.trans (hb.mono hB4.size); have x0 := hX4.cell 0; have x1 := hX4.cell 1; have x2 := hX4.cell 2; have x3 := hX4.cell 3; obtain ⟨a0, a1, af⟩ := hA.duo; obtain ⟨r0, r1, rf⟩ := hR4.duo))
          have hF := (hR4.set 0 (.int .i64 (tr false))).set 1 (.int .i64 (tr false))
          have k0 := hF.cell 0
          have k1 := hF.cell 1
          exact bodyPost_ret (v := .agg #[.int .i64 (tr false), .int .i64 (tr false)]) (by simp [results, Try.results62, go_sem, k0, k1]; done) rfl ⟨rfl, (hB4.setCell (p := ⟨w.heap.size + 2, 0, none⟩) (by show w.heap.size ≤ w.heap.size + 2; omega) _).setCell (p := ⟨w.heap.size + 2, 1, none⟩) (by show w.heap.size ≤ w.heap.size + 2; omega) _⟩
        · by_cases hz2 : ah = 0
          · skip
            have y1 : decide (0 < al) = false := decide_eq_false (by omega)
            have n1 : (ah == 0) = true := beq_iff_eq.2 (by omega)
            rw [opR10 al ah bl bh true true (by first | (simp; done) | (simp; omega)) (by first | (simp; done) | (simp; omega))]
            clear gi1 gi2 gi3 gj t2' t3'
            try clear hz1
            try clear hz2
            go_enter Try.func62, Try.ntmps62
            go_upto_region 1 with fail
            rw [← hw3]
            clear hw3
            go_upto_region 7 with fail
            rw [← hw4]
            clear hw4 x0 x1 x2 x3 t0 t1
            have x0 := hX4.cell 0
            have x1 := hX4.cell 1
            have x2 := hX4.cell 2
            have x3 := hX4.cell 3
            obtain ⟨a0, a1, af⟩ := hA.duo
            obtain ⟨r0, r1, rf⟩ := hR4.duo
            go_wp2_with (first | (go_at_call 89; refine (CK.out _ _).mono ?_; rintro e w' ⟨rfl, hb⟩; clear x0 x1 x2 x3 a0 a1 af r0 r1 rf; replace hA := hA.below hb hA.lt; replace hX4 := hX4.below hb hX4.lt; replace hR4 := hR4.below hb hR4.lt; replace hB4 := hB4.trans (hb.mono hB4.size); have x0 := hX4.cell 0; have x1 := hX4.cell 1; have x2 := hX4.cell 2; have x3 := hX4.cell 3; obtain ⟨a0, a1, af⟩ := hA.duo; obtain ⟨r0, r1, rf⟩ := hR4.duo) | (go_at_call 88; refine (CY.out _ _ _).mono ?_; rintro e w' ⟨rfl, hb⟩; clear x0 x1 x2 x3 a0 a1 af r0 r1 rf; replace hA := hA.below hb hA.lt; replace hX4 := hX4.below hb hX4.lt; replace hR4 := hR4.below hb hR4.lt; replace hB4 := hB4.trans (hb.mono hB4.size); have x0 := hX4.cell 0; have x1 := hX4.cell 1; have x2 := hX4.cell 2; have x3 := hX4.cell 3; obtain ⟨a0, a1, af⟩ := hA.duo; obtain ⟨r0, r1, rf⟩ := hR4.duo) | (go_at_call 90; refine (CN.out _ _ _).mono ?_; rintro e w' ⟨rfl, hb⟩; clear x0 x1 x2 x3 a0 a1 af r0 r1 rf; replace hA := hA.below hb hA.lt; replace hX4 := hX4.below hb hX4.lt; replace hR4 := hR4.below hb hR4.lt; replace hB4 := hB4.trans (hb.mono hB4.size); have x0 := hX4.cell 0; have x1 := hX4.cell 1; have x2 := hX4.cell 2; have x3 := hX4.cell 3; obtain ⟨a0, a1, af⟩ := hA.duo; obtain ⟨r0, r1, rf⟩ := hR4.duo))
            have hF := (hR4.set 0 (.int .i64 (tr true))).set 1 (.int .i64 (tr true))
            have k0 := hF.cell 0
            have k1 := hF.cell 1
            exact bodyPost_ret (v := .agg #[.int .i64 (tr true), .int .i64 (tr true)]) (by simp [results, Try.results62, go_sem, k0, k1]; done) rfl ⟨rfl, (hB4.setCell (p := ⟨w.heap.size + 2, 0, none⟩) (by show w.heap.size ≤ w.heap.size + 2; omega) _).setCell (p := ⟨w.heap.size + 2, 1, none⟩) (by show w.heap.size ≤ w.heap.size + 2; omega) _⟩
          · skip
            have y1 : decide (0 < al) = false := decide_eq_false (by omega)
            have n1 : (ah == 0) = false := beq_eq_false_iff_ne.2 (by omega)
            rw [opR10 al ah bl bh false true (Bool.eq_false_iff.2 fun h => by first | (simp at h; done) | (simp at h; omega)) (by first | (simp; done) | (simp; omega))]
            clear gi1 gi2 gi3 gj t2' t3'
            try clear hz1
            try clear hz2
            go_enter Try.func62, Try.ntmps62
            go_upto_region 1 with fail
            rw [← hw3]
            clear hw3
            go_upto_region 7 with fail
            rw [← hw4]
            clear hw4 x0 x1 x2 x3 t0 t1
            have x0 := hX4.cell 0
            have x1 := hX4.cell 1
            have x2 := hX4.cell 2
            have x3 := hX4.cell 3
            obtain ⟨a0, a1, af⟩ := hA.duo
            obtain ⟨r0, r1, rf⟩ := hR4.duo
            go_wp2_with (first | (go_at_call 89; refine (CK.out _ _).mono ?_; rintro e w' ⟨rfl, hb⟩; clear x0 x1 x2 x3 a0 a1 af r0 r1 rf; replace hA := hA.below hb hA.lt; replace hX4 := hX4.below hb hX4.lt; replace hR4 := hR4.below hb hR4.lt; replace hB4 := hB4.trans (hb.mono hB4.size); have x0 := hX4.cell 0; have x1 := hX4.cell 1; have x2 := hX4.cell 2; have x3 := hX4.cell 3; obtain ⟨a0, a1, af⟩ := hA.duo; obtain ⟨r0, r1, rf⟩ := hR4.duo) | (go_at_call 88; refine (CY.out _ _ _).mono ?_; rintro e w' ⟨rfl, hb⟩; clear x0 x1 x2 x3 a0 a1 af r0 r1 rf; replace hA := hA.below hb hA.lt; replace hX4 := hX4.below hb hX4.lt; replace hR4 := hR4.below hb hR4.lt; replace hB4 := hB4.trans (hb.mono hB4.size); have x0 := hX4.cell 0; have x1 := hX4.cell 1; have x2 := hX4.cell 2; have x3 := hX4.cell 3; obtain ⟨a0, a1, af⟩ := hA.duo; obtain ⟨r0, r1, rf⟩ := hR4.duo) | (go_at_call 90; refine (CN.out _ _ _).mono ?_; rintro e w' ⟨rfl, hb⟩; clear x0 x1 x2 x3 a0 a1 af r0 r1 rf; replace hA := hA.below hb hA.lt; replace hX4 := hX4.below hb hX4.lt; replace hR4 := hR4.below hb hR4.lt; replace hB4 := hB4.trans (hb.mono hB4.size); have x0 := hX4.cell 0; have x1 := hX4.cell 1; have x2 := hX4.cell 2; have x3 := hX4.cell 3; obtain ⟨a0, a1, af⟩ := hA.duo; obtain ⟨r0, r1, rf⟩ := hR4.duo))
            have hF := (hR4.set 0 (.int .i64 (0))).set 1 (.int .i64 (1))
            have k0 := hF.cell 0
            have k1 := hF.cell 1
            exact bodyPost_ret (v := .agg #[.int .i64 (0), .int .i64 (1)]) (by simp [results, Try.results62, go_sem, k0, k1]; done) rfl ⟨rfl, (hB4.setCell (p := ⟨w.heap.size + 2, 0, none⟩) (by show w.heap.size ≤ w.heap.size + 2; omega) _).setCell (p := ⟨w.heap.size + 2, 1, none⟩) (by show w.heap.size ≤ w.heap.size + 2; omega) _⟩
      · have e10 : (op == 10) = false := beq_eq_false_iff_ne.2 o10
        have hBb := Box.new w4 59 #[.int .i64 bl, .int .i64 bh]
        rw [hz4] at hBb
        have ha5 := (Below.refl w4.heap.size w4).alloc (Nat.le_refl _) (.cells #[.int .i64 bl, .int .i64 bh] 59)
        obtain ⟨w5, hw5⟩ : ∃ w5, w5 = w4.alloc (.cells #[.int .i64 bl, .int .i64 bh] 59) := ⟨_, rfl⟩
        have hA5 := hA.alloc (.cells #[.int .i64 bl, .int .i64 bh] 59)
        have hX5 := hX4.alloc (.cells #[.int .i64 bl, .int .i64 bh] 59)
        have hR5 := hR4.alloc (.cells #[.int .i64 bl, .int .i64 bh] 59)
        have hB5 := hB4.trans (ha5.mono hB4.size)
        rw [← hw5] at hBb hA5 hX5 hR5 hB5
        have CP := Lib.hid (fun W ho => compare5_any op al ah bl bh W gi gj ho)
        have CG := Lib.hid (fun W ho => logic5_any op al ah bl bh W gi gj ho)
        have IA := gi.at_
        have IB := gj.at_
        dsimp only at IA IB
        have hm1 : 0 ≤ al * bl ∧ al * bl ≤ 20 * 20 := ⟨Int.mul_nonneg (by omega) (by omega), Int.mul_le_mul (by omega) (by omega) (by omega) (by omega)⟩
        have hm2 : 0 ≤ ah * bh ∧ ah * bh ≤ 20 * 20 := ⟨Int.mul_nonneg (by omega) (by omega), Int.mul_le_mul (by omega) (by omega) (by omega) (by omega)⟩
        have w1 : IntKind.i64.wrap (al + bl) = al + bl := IntWalk.i64_in _ (by omega)
        have w2 : IntKind.i64.wrap (ah + bh) = ah + bh := IntWalk.i64_in _ (by omega)
        have w3' : IntKind.i64.wrap (al - bh) = al - bh := IntWalk.i64_in _ (by omega)
        have w4' : IntKind.i64.wrap (ah - bl) = ah - bl := IntWalk.i64_in _ (by omega)
        have w5' : IntKind.i64.wrap (al * bl) = al * bl := IntWalk.i64_in _ (by omega)
        have w6' : IntKind.i64.wrap (ah * bh) = ah * bh := IntWalk.i64_in _ (by omega)
        have hcs : op = 3 ∨ op = 5 ∨ op = 4 ∨ (op = 6 ∨ op = 7) ∨ (op = 8 ∨ op = 9) := by omega
        clear hm1 hm2 gi gj IA IB o1 o2 o10 hop ha4 ha5
        rcases hcs with rfl | rfl | rfl | h67 | h89
        · have HV : Hid (opR 3 al ah bl bh = (min (al + bl) 20, min (ah + bh) 20)) := Lib.hid rfl
          rw [HV.out]
          clear CP CG HV
          go_enter Try.func62, Try.ntmps62
          go_upto_region 1 with fail
          rw [← hw3]
          clear hw3
          go_upto_region 7 with fail
          rw [← hw4]
          clear hw4 x0 x1 x2 x3 t0 t1
          have x0 := hX4.cell 0
          have x1 := hX4.cell 1
          have x2 := hX4.cell 2
          have x3 := hX4.cell 3
          obtain ⟨a0, a1, af⟩ := hA.duo
          obtain ⟨r0, r1, rf⟩ := hR4.duo
          go_upto_region 14 with fail
          rw [← hw5]
          clear hw5 t2' t3' hA hX4 hR4 hB4
          clear x0 x1 x2 x3 a0 a1 af r0 r1 rf
          have x0 := hX5.cell 0
          have x1 := hX5.cell 1
          have x2 := hX5.cell 2
          have x3 := hX5.cell 3
          obtain ⟨a0, a1, af⟩ := hA5.duo
          obtain ⟨b0, b1, bf⟩ := hBb.duo
          obtain ⟨r0, r1, rf⟩ := hR5.duo
          go_upto_region 16 with fail
          have KT0 : KeepT w (w.heap.size + 3) (w.heap.size + 4) (.int .i64 al) (.int .i64 ah) (.int .i64 bl) (.int .i64 bh) 59 (.int .i64 (min (al + bl) 20)) (.int .i64 (min (ah + bh) 20)) w5 := ⟨hA5, hBb, .inl hR5, hB5⟩
          have HK0 := Lib.hid KT0
          clear KT0 a0 a1 af b0 b1 bf hA5 hBb hB5 hX5 x0 x1 x2 x3
          go_region_held3 (fun w' => w'.cell? ⟨w.heap.size + 3, 0, none⟩ = some (.int .i64 al) ∧ w'.cell? ⟨w.heap.size + 3, 1, none⟩ = some (.int .i64 ah) ∧ w'.cell? ⟨w.heap.size + 4, 0, none⟩ = some (.int .i64 bl) ∧ w'.cell? ⟨w.heap.size + 4, 1, none⟩ = some (.int .i64 bh) ∧ KeepT w (w.heap.size + 3) (w.heap.size + 4) (.int .i64 al) (.int .i64 ah) (.int .i64 bl) (.int .i64 bh) 59 (.int .i64 (min (al + bl) 20)) (.int .i64 (min (ah + bh) 20)) w')
            ((refine KeepT.cells ?_; first | exact HK0.out.step (Below.refl _ w5).drew | exact hold4r (by assumption) | exact KeepT.put (hold4r (by assumption)) (by omega) (by omega)))
            (first
              | (go_at_call 91; refine (CL.out _ _ _).mono ?_; rintro e w' ⟨rfl, rfl⟩))
          have hk8 : KeepT w (w.heap.size + 3) (w.heap.size + 4) (.int .i64 al) (.int .i64 ah) (.int .i64 bl) (.int .i64 bh) 59 (.int .i64 (min (al + bl) 20)) (.int .i64 (min (ah + bh) 20)) _ := hold4r (by assumption)
          go_wp2_with fail
          have hF : Box _ (w.heap.size + 2) 59 #[.int .i64 (min (al + bl) 20), .int .i64 (min (ah + bh) 20)] := (hR5.set 0 (.int .i64 (min (al + bl) 20))).set 1 (.int .i64 (min (ah + bh) 20))
          have k0 := (hF.below (Below.refl _ _).drew hF.lt).cell 0
          have k1 := (hF.below (Below.refl _ _).drew hF.lt).cell 1
          exact bodyPost_ret (v := .agg #[.int .i64 (min (al + bl) 20), .int .i64 (min (ah + bh) 20)]) (by simp [results, Try.results62, go_sem, k0, k1]; done) rfl ⟨rfl, hk8.2.2.2⟩
        · have HV : Hid (opR 5 al ah bl bh = (min (al * bl) 20, min (ah * bh) 20)) := Lib.hid rfl
          rw [HV.out]
          clear CP CG HV
          go_enter Try.func62, Try.ntmps62
          go_upto_region 1 with fail
          rw [← hw3]
          clear hw3
          go_upto_region 7 with fail
          rw [← hw4]
          clear hw4 x0 x1 x2 x3 t0 t1
          have x0 := hX4.cell 0
          have x1 := hX4.cell 1
          have x2 := hX4.cell 2
          have x3 := hX4.cell 3
          obtain ⟨a0, a1, af⟩ := hA.duo
          obtain ⟨r0, r1, rf⟩ := hR4.duo
          go_upto_region 14 with fail
          rw [← hw5]
          clear hw5 t2' t3' hA hX4 hR4 hB4
          clear x0 x1 x2 x3 a0 a1 af r0 r1 rf
          have x0 := hX5.cell 0
          have x1 := hX5.cell 1
          have x2 := hX5.cell 2
          have x3 := hX5.cell 3
          obtain ⟨a0, a1, af⟩ := hA5.duo
          obtain ⟨b0, b1, bf⟩ := hBb.duo
          obtain ⟨r0, r1, rf⟩ := hR5.duo
          go_upto_region 18 with fail
          have KT0 : KeepT w (w.heap.size + 3) (w.heap.size + 4) (.int .i64 al) (.int .i64 ah) (.int .i64 bl) (.int .i64 bh) 59 (.int .i64 (min (al * bl) 20)) (.int .i64 (min (ah * bh) 20)) w5 := ⟨hA5, hBb, .inl hR5, hB5⟩
          have HK0 := Lib.hid KT0
          clear KT0 a0 a1 af b0 b1 bf hA5 hBb hB5 hX5 x0 x1 x2 x3
          go_region_held3 (fun w' => w'.cell? ⟨w.heap.size + 3, 0, none⟩ = some (.int .i64 al) ∧ w'.cell? ⟨w.heap.size + 3, 1, none⟩ = some (.int .i64 ah) ∧ w'.cell? ⟨w.heap.size + 4, 0, none⟩ = some (.int .i64 bl) ∧ w'.cell? ⟨w.heap.size + 4, 1, none⟩ = some (.int .i64 bh) ∧ KeepT w (w.heap.size + 3) (w.heap.size + 4) (.int .i64 al) (.int .i64 ah) (.int .i64 bl) (.int .i64 bh) 59 (.int .i64 (min (al * bl) 20)) (.int .i64 (min (ah * bh) 20)) w')
            ((refine KeepT.cells ?_; first | exact HK0.out.step (Below.refl _ w5).drew | exact hold4r (by assumption) | exact KeepT.put (hold4r (by assumption)) (by omega) (by omega)))
            (first
              | (go_at_call 91; refine (CL.out _ _ _).mono ?_; rintro e w' ⟨rfl, rfl⟩))
          have hk8 : KeepT w (w.heap.size + 3) (w.heap.size + 4) (.int .i64 al) (.int .i64 ah) (.int .i64 bl) (.int .i64 bh) 59 (.int .i64 (min (al * bl) 20)) (.int .i64 (min (ah * bh) 20)) _ := hold4r (by assumption)
          go_wp2_with fail
          have hF : Box _ (w.heap.size + 2) 59 #[.int .i64 (min (al * bl) 20), .int .i64 (min (ah * bh) 20)] := (hR5.set 0 (.int .i64 (min (al * bl) 20))).set 1 (.int .i64 (min (ah * bh) 20))
          have k0 := (hF.below (Below.refl _ _).drew hF.lt).cell 0
          have k1 := (hF.below (Below.refl _ _).drew hF.lt).cell 1
          exact bodyPost_ret (v := .agg #[.int .i64 (min (al * bl) 20), .int .i64 (min (ah * bh) 20)]) (by simp [results, Try.results62, go_sem, k0, k1]; done) rfl ⟨rfl, hk8.2.2.2⟩
        · have HV : Hid (opR 4 al ah bl bh = (max (al - bh) 0, max (ah - bl) 0)) := Lib.hid rfl
          rw [HV.out]
          clear CP CG HV
          go_enter Try.func62, Try.ntmps62
          go_upto_region 1 with fail
          rw [← hw3]
          clear hw3
          go_upto_region 7 with fail
          rw [← hw4]
          clear hw4 x0 x1 x2 x3 t0 t1
          have x0 := hX4.cell 0
          have x1 := hX4.cell 1
          have x2 := hX4.cell 2
          have x3 := hX4.cell 3
          obtain ⟨a0, a1, af⟩ := hA.duo
          obtain ⟨r0, r1, rf⟩ := hR4.duo
          go_upto_region 14 with fail
          rw [← hw5]
          clear hw5 t2' t3' hA hX4 hR4 hB4
          clear x0 x1 x2 x3 a0 a1 af r0 r1 rf
          have x0 := hX5.cell 0
          have x1 := hX5.cell 1
          have x2 := hX5.cell 2
          have x3 := hX5.cell 3
          obtain ⟨a0, a1, af⟩ := hA5.duo
          obtain ⟨b0, b1, bf⟩ := hBb.duo
          obtain ⟨r0, r1, rf⟩ := hR5.duo
          go_upto_region 20 with fail
          have KT0 : KeepT w (w.heap.size + 3) (w.heap.size + 4) (.int .i64 al) (.int .i64 ah) (.int .i64 bl) (.int .i64 bh) 59 (.int .i64 (max (al - bh) 0)) (.int .i64 (max (ah - bl) 0)) w5 := ⟨hA5, hBb, .inl hR5, hB5⟩
          have HK0 := Lib.hid KT0
          clear KT0 a0 a1 af b0 b1 bf hA5 hBb hB5 hX5 x0 x1 x2 x3
          go_region_held3 (fun w' => w'.cell? ⟨w.heap.size + 3, 0, none⟩ = some (.int .i64 al) ∧ w'.cell? ⟨w.heap.size + 3, 1, none⟩ = some (.int .i64 ah) ∧ w'.cell? ⟨w.heap.size + 4, 0, none⟩ = some (.int .i64 bl) ∧ w'.cell? ⟨w.heap.size + 4, 1, none⟩ = some (.int .i64 bh) ∧ KeepT w (w.heap.size + 3) (w.heap.size + 4) (.int .i64 al) (.int .i64 ah) (.int .i64 bl) (.int .i64 bh) 59 (.int .i64 (max (al - bh) 0)) (.int .i64 (max (ah - bl) 0)) w')
            ((refine KeepT.cells ?_; first | exact HK0.out.step (Below.refl _ w5).drew | exact hold4r (by assumption) | exact KeepT.put (hold4r (by assumption)) (by omega) (by omega)))
            (first
              | (go_at_call 85; refine (CM.out _ _ _).mono ?_; rintro e w' ⟨rfl, rfl⟩))
          have hk8 : KeepT w (w.heap.size + 3) (w.heap.size + 4) (.int .i64 al) (.int .i64 ah) (.int .i64 bl) (.int .i64 bh) 59 (.int .i64 (max (al - bh) 0)) (.int .i64 (max (ah - bl) 0)) _ := hold4r (by assumption)
          go_wp2_with fail
          have hF : Box _ (w.heap.size + 2) 59 #[.int .i64 (max (al - bh) 0), .int .i64 (max (ah - bl) 0)] := (hR5.set 0 (.int .i64 (max (al - bh) 0))).set 1 (.int .i64 (max (ah - bl) 0))
          have k0 := (hF.below (Below.refl _ _).drew hF.lt).cell 0
          have k1 := (hF.below (Below.refl _ _).drew hF.lt).cell 1
          exact bodyPost_ret (v := .agg #[.int .i64 (max (al - bh) 0), .int .i64 (max (ah - bl) 0)]) (by simp [results, Try.results62, go_sem, k0, k1]; done) rfl ⟨rfl, hk8.2.2.2⟩
        · have HC := Lib.hid (CP.out · h67)
          obtain ⟨x, hx⟩ : ∃ x, x = (opR op al ah bl bh).1 := ⟨_, rfl⟩
          obtain ⟨y, hy⟩ : ∃ y, y = (opR op al ah bl bh).2 := ⟨_, rfl⟩
          rw [← hx, ← hy] at HC
          rw [← hx, ← hy]
          have d3 : (op == 3) = false := beq_eq_false_iff_ne.2 (by omega)
          have d5 : (op == 5) = false := beq_eq_false_iff_ne.2 (by omega)
          have d4 : (op == 4) = false := beq_eq_false_iff_ne.2 (by omega)
          have d67 : (op == 6) = true ∨ ((op == 6) = false ∧ (op == 7) = true) := by
            rcases h67 with h | h
            · exact .inl (by rw [h]; rfl)
            · exact .inr ⟨by rw [h]; rfl, by rw [h]; rfl⟩
          clear h67
          clear CP CG hx hy
          go_enter Try.func62, Try.ntmps62
          go_upto_region 1 with fail
          rw [← hw3]
          clear hw3
          go_upto_region 7 with fail
          rw [← hw4]
          clear hw4 x0 x1 x2 x3 t0 t1
          have x0 := hX4.cell 0
          have x1 := hX4.cell 1
          have x2 := hX4.cell 2
          have x3 := hX4.cell 3
          obtain ⟨a0, a1, af⟩ := hA.duo
          obtain ⟨r0, r1, rf⟩ := hR4.duo
          go_upto_region 14 with fail
          rw [← hw5]
          clear hw5 t2' t3' hA hX4 hR4 hB4
          clear x0 x1 x2 x3 a0 a1 af r0 r1 rf
          have x0 := hX5.cell 0
          have x1 := hX5.cell 1
          have x2 := hX5.cell 2
          have x3 := hX5.cell 3
          obtain ⟨a0, a1, af⟩ := hA5.duo
          obtain ⟨b0, b1, bf⟩ := hBb.duo
          obtain ⟨r0, r1, rf⟩ := hR5.duo
          rcases d67 with d6 | ⟨d6, d7⟩
          all_goals go_wp2_with (go_at_call 92; refine (HC.out _).mono ?_; rintro e w' ⟨rfl, hb⟩; clear x0 x1 x2 x3 a0 a1 af b0 b1 bf r0 r1 rf; replace hR5 := hR5.below hb hR5.lt; replace hB5 := hB5.trans (hb.mono hB5.size); obtain ⟨r0, r1, rf⟩ := hR5.duo)
          all_goals have hF := (hR5.set 0 (.int .i64 (x))).set 1 (.int .i64 (y))
          all_goals have k0 := hF.cell 0
          all_goals have k1 := hF.cell 1
          all_goals exact bodyPost_ret (v := .agg #[.int .i64 (x), .int .i64 (y)]) (by simp [results, Try.results62, go_sem, k0, k1]; done) rfl ⟨rfl, (hB5.setCell (p := ⟨w.heap.size + 2, 0, none⟩) (by show w.heap.size ≤ w.heap.size + 2; omega) _).setCell (p := ⟨w.heap.size + 2, 1, none⟩) (by show w.heap.size ≤ w.heap.size + 2; omega) _⟩
        · have HC := Lib.hid (CG.out · h89)
          obtain ⟨x, hx⟩ : ∃ x, x = (opR op al ah bl bh).1 := ⟨_, rfl⟩
          obtain ⟨y, hy⟩ : ∃ y, y = (opR op al ah bl bh).2 := ⟨_, rfl⟩
          rw [← hx, ← hy] at HC
          rw [← hx, ← hy]
          have d3 : (op == 3) = false := beq_eq_false_iff_ne.2 (by omega)
          have d5 : (op == 5) = false := beq_eq_false_iff_ne.2 (by omega)
          have d4 : (op == 4) = false := beq_eq_false_iff_ne.2 (by omega)
          have d6 : (op == 6) = false := beq_eq_false_iff_ne.2 (by omega)
          have d7 : (op == 7) = false := beq_eq_false_iff_ne.2 (by omega)
          clear h89
          clear CP CG hx hy
          go_enter Try.func62, Try.ntmps62
          go_upto_region 1 with fail
          rw [← hw3]
          clear hw3
          go_upto_region 7 with fail
          rw [← hw4]
          clear hw4 x0 x1 x2 x3 t0 t1
          have x0 := hX4.cell 0
          have x1 := hX4.cell 1
          have x2 := hX4.cell 2
          have x3 := hX4.cell 3
          obtain ⟨a0, a1, af⟩ := hA.duo
          obtain ⟨r0, r1, rf⟩ := hR4.duo
          go_upto_region 14 with fail
          rw [← hw5]
          clear hw5 t2' t3' hA hX4 hR4 hB4
          clear x0 x1 x2 x3 a0 a1 af r0 r1 rf
          have x0 := hX5.cell 0
          have x1 := hX5.cell 1
          have x2 := hX5.cell 2
          have x3 := hX5.cell 3
          obtain ⟨a0, a1, af⟩ := hA5.duo
          obtain ⟨b0, b1, bf⟩ := hBb.duo
          obtain ⟨r0, r1, rf⟩ := hR5.duo
          go_wp2_with (go_at_call 93; refine (HC.out _).mono ?_; rintro e w' ⟨rfl, hb⟩; clear x0 x1 x2 x3 a0 a1 af b0 b1 bf r0 r1 rf; replace hR5 := hR5.below hb hR5.lt; replace hB5 := hB5.trans (hb.mono hB5.size); obtain ⟨r0, r1, rf⟩ := hR5.duo)
          have hF := (hR5.set 0 (.int .i64 (x))).set 1 (.int .i64 (y))
          have k0 := hF.cell 0
          have k1 := hF.cell 1
          exact bodyPost_ret (v := .agg #[.int .i64 (x), .int .i64 (y)]) (by simp [results, Try.results62, go_sem, k0, k1]; done) rfl ⟨rfl, (hB5.setCell (p := ⟨w.heap.size + 2, 0, none⟩) (by show w.heap.size ≤ w.heap.size + 2; omega) _).setCell (p := ⟨w.heap.size + 2, 1, none⟩) (by show w.heap.size ≤ w.heap.size + 2; omega) _⟩

end Go.Proofs.Ytdeilceakhgjlaa
