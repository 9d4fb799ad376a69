/-
  The bound on the number of paths: statements, the model's. (Written by gen_pgcn.py.)
-/
import Derived.Test.YtcdgbjklfmlhkaaPgCn3
namespace Go.Proofs.Ytcdgbjklfmlhkaa
open Go.RowKit Num

theorem hold8c {W W' : World} {p0 p1 p2 p3 p4 p5 p6 p7 : Prop} (h : p0 ∧ p1 ∧ p2 ∧ p3 ∧ p4 ∧ p5 ∧ p6 ∧ p7 ∧ Below W.heap.size W W') : Below W.heap.size W W' := h.2.2.2.2.2.2.2.2

set_option maxRecDepth 100000 in
set_option maxHeartbeats 6400000 in
theorem stS_of (P : Prg) (hs : P.small) (hok : ∀ j, j < P.ns → StOk P (P.st j)) (hbl : BlocksOk P) (d f : Nat) (hf : f ≤ 3) (hB : BCS P d f) (hC : ∀ g, f = g + 1 → BCS P P.ns g) : SCS P (d + 1) f := by
  intro lo i Av Ax As Ap Ab A3 A4 A5 cv cx cs cp cb c3 c4 c5 w hp hi hd g4 g5
  have hP := Box.new w 37 #[.slice Av P.nv cv, .slice Ax P.nx cx, .slice As P.ns cs, .slice Ap P.np cp, .slice Ab P.nb cb, .int .i64 P.fuel]
  have hB2 := (Below.refl w.heap.size w).alloc (Nat.le_refl _) (.cells #[.slice Av P.nv cv, .slice Ax P.nx cx, .slice As P.ns cs, .slice Ap P.np cp, .slice Ab P.nb cb, .int .i64 P.fuel] 37)
  obtain ⟨u1, hu1⟩ : ∃ u1, u1 = w.alloc (.cells #[.slice Av P.nv cv, .slice Ax P.nx cx, .slice As P.ns cs, .slice Ap P.np cp, .slice Ab P.nb cb, .int .i64 P.fuel] 37) := ⟨_, rfl⟩
  rw [← hu1] at hP hB2
  have hz1 : u1.heap.size = w.heap.size + 1 := by rw [hu1]; simp
  have hV := Box.new u1 110 #[.int .i64 (P.st i).kind, .int .i64 (P.st i).var, .int .i64 (P.st i).ex, .slice A3 (P.st i).nc c3, .slice A4 (P.st i).nt c4, .slice A5 (P.st i).ne c5, .int .i64 (P.st i).times, .int .i64 (P.st i).proc]
  rw [hz1] at hV
  have hal := (Below.refl u1.heap.size u1).alloc (Nat.le_refl _) (.cells #[.int .i64 (P.st i).kind, .int .i64 (P.st i).var, .int .i64 (P.st i).ex, .slice A3 (P.st i).nc c3, .slice A4 (P.st i).nt c4, .slice A5 (P.st i).ne c5, .int .i64 (P.st i).times, .int .i64 (P.st i).proc] 110)
  replace hB2 := hB2.trans (hal.mono hB2.size)
  replace hP := hP.below hal hP.lt
  obtain ⟨u2, hu2⟩ : ∃ u2, u2 = u1.alloc (.cells #[.int .i64 (P.st i).kind, .int .i64 (P.st i).var, .int .i64 (P.st i).ex, .slice A3 (P.st i).nc c3, .slice A4 (P.st i).nt c4, .slice A5 (P.st i).ne c5, .int .i64 (P.st i).times, .int .i64 (P.st i).proc] 110) := ⟨_, rfl⟩
  rw [← hu2] at hV hP hB2
  have hPl := hP.lt
  have hVl := hV.lt
  have hS := hok i hi
  have hr := hbl.2.2.1 i hi
  have hp2 := hp.below hB2 (Nat.le_refl _)
  have hD : pD P (pF P f) (d + 1) (i : Nat) = stV (P.st i) (pD P (pF P f) d) (pF P f) := by rw [pD, Int.toNat_natCast]
  rw [hD]
  obtain ⟨x, hx⟩ : ∃ x, x = blkV (pD P (pF P f) d) (P.st i).th (P.st i).nt := ⟨_, rfl⟩
  obtain ⟨y, hy⟩ : ∃ y, y = blkV (pD P (pF P f) d) (P.st i).el (P.st i).ne := ⟨_, rfl⟩
  have HX : Hid (Bd x) := Lib.hid (by rw [hx]; exact blkV_bd fun _ _ => pD_bd (pF_bd f) _ _)
  have HY : Hid (Bd y) := Lib.hid (by rw [hy]; exact blkV_bd fun _ _ => pD_bd (pF_bd f) _ _)
  have CT : Hid (∀ W, Below u2.heap.size u2 W → _) := Lib.hid fun W hW => hB lo (P.st i).nt (P.st i).th Av Ax As Ap Ab A4 cv cx cs cp cb c4 W (hp2.below hW (Nat.le_refl _)) (hs.st i hi).nt (fun j hj => by have := hr.1 j hj; omega) ((g4.below hB2 (Nat.le_refl _)).below hW (Nat.le_refl _))
  have CE : Hid (∀ W, Below u2.heap.size u2 W → _) := Lib.hid fun W hW => hB lo (P.st i).ne (P.st i).el Av Ax As Ap Ab A5 cv cx cs cp cb c5 W (hp2.below hW (Nat.le_refl _)) (hs.st i hi).ne (fun j hj => by have := hr.2 j hj; omega) ((g5.below hB2 (Nat.le_refl _)).below hW (Nat.le_refl _))
  rw [← hx] at CT
  rw [← hy] at CE
  have HP2 := Lib.hid hp2
  have HC := Lib.hid hC
  have HNP := Lib.hid hbl.2.1
  have HSM := Lib.hid hs
  have CL : Hid (∀ a W, _) := Lib.hid fun a W => cap_any a W
  obtain ⟨R, hR⟩ : ∃ R, R = stV (P.st i) (pD P (pF P f) d) (pF P f) := ⟨_, rfl⟩
  rw [← hR]
  have hnc : (P.st i).nc ≤ 1048576 := (hs.st i hi).nc
  obtain ⟨q0, q1, q2, q3, q4, q5, qf⟩ := hP.six
  obtain ⟨v0, v1, v2, v3, v4, v5, v6, v7, vf⟩ := hV.eight
  clear hal hz1 hp g4 g5 hB hC hok hbl hr hD hs hp2
  by_cases k3 : (P.st i).kind = 3
  · have e3 : ((P.st i).kind == 3) = true := by rw [k3]; rfl
    have HR : Hid (R = ((P.st i).nc : Int)) := Lib.hid (by rw [hR, stV, if_pos k3]; omega)
    clear hR hS k3 hx hy
    go_enter Try.func121, Try.ntmps121
    go_upto_region 1 with fail
    rw [← hu1, ← hu2]
    clear hu1 hu2
    go_wp2_with fail
    go_ret
    exact ⟨congrArg (fun z => Ending.returned (.int .i64 z)) HR.out.symm, hB2⟩
  have e3 : ((P.st i).kind == 3) = false := beq_eq_false_iff_ne.2 k3
  by_cases k5 : (P.st i).kind = 5
  · have e5 : ((P.st i).kind == 5) = true := by rw [k5]; rfl
    have HR : Hid (R = lim (x + y)) := Lib.hid (by rw [hR, stV, if_neg k3, if_pos k5, hx, hy])
    have wx : IntKind.i64.wrap (x + y) = x + y := IntWalk.i64_in _ (by have h1 := HX.out; have h2 := HY.out; unfold Bd at h1 h2; omega)
    clear hR hS k3 k5 hx hy
    go_enter Try.func121, Try.ntmps121
    go_upto_region 1 with fail
    rw [← hu1, ← hu2]
    clear hu1 hu2
    go_upto_region 5 with fail
    go_region_held3 (fun w' => w'.cell? ⟨w.heap.size, 0, none⟩ = some (.slice Av P.nv cv) ∧ w'.cell? ⟨w.heap.size, 1, none⟩ = some (.slice Ax P.nx cx) ∧ w'.cell? ⟨w.heap.size, 2, none⟩ = some (.slice As P.ns cs) ∧ w'.cell? ⟨w.heap.size, 3, none⟩ = some (.slice Ap P.np cp) ∧ w'.cell? ⟨w.heap.size, 4, none⟩ = some (.slice Ab P.nb cb) ∧ w'.cell? ⟨w.heap.size, 5, none⟩ = some (.int .i64 P.fuel) ∧ w'.cell? ⟨(w.heap.size + 1), 4, none⟩ = some (.slice A4 (P.st i).nt c4) ∧ w'.cell? ⟨(w.heap.size + 1), 5, none⟩ = some (.slice A5 (P.st i).ne c5) ∧ Below u2.heap.size u2 w')
            ((suffices hBB : Below u2.heap.size u2 _ from ⟨(hBB.cell (p := ⟨w.heap.size, 0, none⟩) hPl).trans q0, (hBB.cell (p := ⟨w.heap.size, 1, none⟩) hPl).trans q1, (hBB.cell (p := ⟨w.heap.size, 2, none⟩) hPl).trans q2, (hBB.cell (p := ⟨w.heap.size, 3, none⟩) hPl).trans q3, (hBB.cell (p := ⟨w.heap.size, 4, none⟩) hPl).trans q4, (hBB.cell (p := ⟨w.heap.size, 5, none⟩) hPl).trans q5, (hBB.cell (p := ⟨(w.heap.size + 1), 4, none⟩) hVl).trans v4, (hBB.cell (p := ⟨(w.heap.size + 1), 5, none⟩) hVl).trans v5, hBB⟩; first | exact (Below.refl _ u2).drew | exact hold8c (by assumption) | (refine stepB' (hold8c (by assumption)) ?_; assumption)))
            (first
              | (go_at_call 73; with_reducible refine (CT.out _ (hold8c (by assumption))).mono ?_; rintro e w5 ⟨rfl, hb5⟩)
              | (go_at_call 73; with_reducible refine (CE.out _ (hold8c (by assumption))).mono ?_; rintro e w7 ⟨rfl, hb7⟩)
              | (go_at_call 120; refine (CL.out _ _).mono ?_; rintro e w6 ⟨rfl, rfl⟩))
    all_goals have hq := hB2.trans ((hold8c (by assumption)).mono hB2.size)
    all_goals go_wp2_with fail
    all_goals go_ret
    all_goals exact ⟨congrArg (fun z => Ending.returned (.int .i64 z)) HR.out.symm, hq⟩
  have e5 : ((P.st i).kind == 5) = false := beq_eq_false_iff_ne.2 k5
  by_cases k6 : (P.st i).kind = 6
  · have e6 : ((P.st i).kind == 6) = true := by rw [k6]; rfl
    have htt := ((stOkRep k6).1 hS).1
    obtain ⟨t, ht⟩ : ∃ t : Nat, (P.st i).times = (t : Int) := ⟨(P.st i).times.toNat, by omega⟩
    have ht4 : t ≤ 4 := by omega
    have HR : Hid (R = pwV x t) := Lib.hid (by rw [hR, stV, if_neg k3, if_neg k5, if_pos k6, hx, ht, Int.toNat_natCast])
    have HT := Lib.hid ht
    rw [ht] at v6
    clear hR hS k3 k5 k6 hx hy htt ht
    go_enter Try.func121, Try.ntmps121
    go_upto_region 1 with fail
    rw [← hu1, ← hu2]
    clear hu1 hu2
    go_wp2_with (first
      | (go_at_call 73; with_reducible refine (CT.out _ (Below.refl _ _)).mono ?_; rintro e w5 ⟨rfl, hb5⟩))
    replace hV := hV.below hb5 hV.lt
    replace hB2 := hB2.trans (hb5.mono hB2.size)
    clear q0 q1 q2 q3 q4 q5 qf v0 v1 v2 v3 v4 v5 v6 v7 vf hb5
    go_loopg [7, 9] t (fun q nv kv wr => ∃ (k : Nat) (y : Int), k + q = t ∧ kv = .int .i64 (k : Nat) ∧ nv = .int .i64 y ∧ Hid (y = pwV x k) ∧ w5 = wr)
    case atStart => exact ⟨0, 1, by omega, rfl, rfl, Lib.hid rfl, rfl⟩
    case round =>
      obtain ⟨k, y, hk, rfl, rfl, hy, rfl⟩ := hrel
      obtain ⟨v0, v1, v2, v3, v4, v5, v6, v7, vf⟩ := hV.eight
      rw [HT.out] at v6
      by_cases hk0 : k < t
      · have b1 := bd_mul (by have := pwV_bd HX.out k; rw [← hy.out] at this; exact this) HX.out
        have wx : IntKind.i64.wrap (y * x) = y * x := IntWalk.i64_in _ (by omega)
        have CL1 : Hid (∀ W, _) := Lib.hid fun W => cap_any (y * x) W
        clear b1
        go_wp2_with (go_at_call 120; refine (CL1.out _).mono ?_; rintro e w' ⟨rfl, rfl⟩)
        go_roundg (gk - 1)
        case rel => exact ⟨k + 1, _, by omega, by go_num, rfl, Lib.hid (by rw [pwV, hy.out]), rfl⟩
        case measure => omega
      · obtain rfl : k = t := by omega
        go_wp2_with fail
        go_ret
        exact ⟨congrArg (fun z => Ending.returned (.int .i64 z)) (hy.out.trans HR.out.symm), hB2⟩
  have e6 : ((P.st i).kind == 6) = false := beq_eq_false_iff_ne.2 k6
  by_cases k7 : (P.st i).kind = 7
  · have e7 : ((P.st i).kind == 7) = true := by rw [k7]; rfl
    have htt := ((stOkWhile k7).1 hS).2.1
    obtain ⟨t, ht⟩ : ∃ t : Nat, (P.st i).times = (t : Int) := ⟨(P.st i).times.toNat, by omega⟩
    have ht4 : t ≤ 4 := by omega
    have HR : Hid (R = smV x t) := Lib.hid (by rw [hR, stV, if_neg k3, if_neg k5, if_neg k6, if_pos k7, hx, ht, Int.toNat_natCast])
    have HT := Lib.hid ht
    rw [ht] at v6
    clear hR hS k3 k5 k6 k7 hx hy htt ht
    go_enter Try.func121, Try.ntmps121
    go_upto_region 1 with fail
    rw [← hu1, ← hu2]
    clear hu1 hu2
    go_wp2_with (first
      | (go_at_call 73; with_reducible refine (CT.out _ (Below.refl _ _)).mono ?_; rintro e w5 ⟨rfl, hb5⟩))
    replace hV := hV.below hb5 hV.lt
    replace hB2 := hB2.trans (hb5.mono hB2.size)
    clear q0 q1 q2 q3 q4 q5 qf v0 v1 v2 v3 v4 v5 v6 v7 vf hb5
    go_loopg [10, 11, 13] t (fun q nv sv kv wr => ∃ (k : Nat) (y z : Int), k + q = t ∧ kv = .int .i64 (k : Nat) ∧ nv = .int .i64 y ∧ sv = .int .i64 z ∧ Hid (y = pwV x k) ∧ Hid (z = smV x k) ∧ w5 = wr)
    case atStart => exact ⟨0, 1, 1, by omega, rfl, rfl, rfl, Lib.hid rfl, Lib.hid rfl, rfl⟩
    case round =>
      obtain ⟨k, y, z, hk, rfl, rfl, rfl, hy, hz, rfl⟩ := hrel
      obtain ⟨v0, v1, v2, v3, v4, v5, v6, v7, vf⟩ := hV.eight
      rw [HT.out] at v6
      by_cases hk0 : k < t
      · have b1 := bd_mul (by have := pwV_bd HX.out k; rw [← hy.out] at this; exact this) HX.out
        have b2 := smV_bd HX.out k
        have b3 := pwV_bd HX.out (k + 1)
        rw [← hz.out] at b2
        have hl : lim (y * x) = pwV x (k + 1) := by rw [pwV, hy.out]
        rw [← hl] at b3
        obtain ⟨b2a, b2b⟩ := b2
        obtain ⟨b3a, b3b⟩ := b3
        obtain ⟨u, hu⟩ : ∃ u, u = lim (y * x) := ⟨_, rfl⟩
        rw [← hu] at b3a b3b hl
        have wx : IntKind.i64.wrap (y * x) = y * x := IntWalk.i64_in _ (by omega)
        have wz : IntKind.i64.wrap (z + u) = z + u := IntWalk.i64_in _ (by omega)
        have C1 : Hid (∀ W, Calls Try.prog 120 #[.int .i64 (y * x)] W fun e w' => e = .returned (.int .i64 u) ∧ W = w') := Lib.hid fun W => by rw [hu]; exact cap_any (y * x) W
        have C2 : Hid (∀ W, _) := Lib.hid fun W => cap_any (z + u) W
        have HL := Lib.hid hl
        clear b1 b2a b2b b3a b3b hl hu
        go_wp2_with (first
          | (go_at_call 120; with_reducible refine (C1.out _).mono ?_; rintro e w' ⟨rfl, rfl⟩)
          | (go_at_call 120; with_reducible refine (C2.out _).mono ?_; rintro e w' ⟨rfl, rfl⟩))
        go_roundg (gk - 1)
        case rel => exact ⟨k + 1, _, _, by omega, by go_num, rfl, rfl, HL, Lib.hid (by rw [smV, hz.out, HL.out]), rfl⟩
        case measure => omega
      · obtain rfl : k = t := by omega
        go_wp2_with fail
        go_ret
        exact ⟨congrArg (fun z => Ending.returned (.int .i64 z)) (hz.out.trans HR.out.symm), hB2⟩
  have e7 : ((P.st i).kind == 7) = false := beq_eq_false_iff_ne.2 k7
  by_cases k8 : (P.st i).kind = 8
  · have e8 : ((P.st i).kind == 8) = true := by rw [k8]; rfl
    have hpp := ((stOkCall k8).1 hS).1
    obtain ⟨m, hm⟩ : ∃ m : Nat, (P.st i).proc = (m : Int) := ⟨(P.st i).proc.toNat, by omega⟩
    have hmn : (m : Int) < (P.np : Int) := by omega
    have hmp : m < P.np := by omega
    rw [hm] at v7
    by_cases hf0 : f = 0
    · have e0 : decide ((0 : Int) < (f : Int)) = false := decide_eq_false (by omega)
      have e0n : decide (0 < f) = false := decide_eq_false (by omega)
      have HR : Hid (R = 1) := Lib.hid (by rw [hR, stV, if_neg k3, if_neg k5, if_neg k6, if_neg k7, if_pos k8, hf0, pF])
      clear hR hS k3 k5 k6 k7 k8 hx hy hpp hm hf0
      go_enter Try.func121, Try.ntmps121
      go_upto_region 1 with fail
      rw [← hu1, ← hu2]
      clear hu1 hu2
      go_wp2_with fail
      go_ret
      exact ⟨congrArg (fun z => Ending.returned (.int .i64 z)) HR.out.symm, hB2⟩
    · obtain ⟨g, hg⟩ : ∃ g, f = g + 1 := ⟨f - 1, by omega⟩
      have e0 : decide ((0 : Int) < (f : Int)) = true := decide_eq_true (by omega)
      have e0n : decide (0 < f) = true := decide_eq_true (by omega)
      have wg : IntKind.i64.wrap ((f : Int) - 1) = (g : Int) := by rw [IntWalk.i64_in _ (by omega)]; omega
      have HR : Hid (R = blkV (pD P (pF P g) P.ns) (P.pb m) (P.pl m)) := Lib.hid (by rw [hR, stV, if_neg k3, if_neg k5, if_neg k6, if_neg k7, if_pos k8, hg, hm]; simp only [pF, Int.toNat_natCast])
      obtain ⟨bp, op, A1, c1, rfl, hbp, z0, z1, g1⟩ := HP2.out.p.at_ hmp
      have CP : Hid (∀ W, Below u2.heap.size u2 W → _) := Lib.hid fun W hW => HC.out g hg lo (P.pl m) (P.pb m) Av Ax As (some ⟨bp, op, none⟩) Ab A1 cv cx cs cp cb c1 W (HP2.out.below hW (Nat.le_refl _)) (HSM.out.pl m hmp) (fun j hj => by have := HNP.out m hmp j hj; omega) (g1.below hW (Nat.le_refl _))
      rw [← HR.out] at CP
      clear hR hS k3 k5 k6 k7 k8 hx hy hpp hm hf0 hg g1
      go_enter Try.func121, Try.ntmps121
      go_upto_region 1 with fail
      rw [← hu1, ← hu2]
      clear hu1 hu2
      go_upto_region 23 with fail
      go_region_held3 (fun w' => w'.cell? ⟨w.heap.size, 0, none⟩ = some (.slice Av P.nv cv) ∧ w'.cell? ⟨w.heap.size, 1, none⟩ = some (.slice Ax P.nx cx) ∧ w'.cell? ⟨w.heap.size, 2, none⟩ = some (.slice As P.ns cs) ∧ w'.cell? ⟨w.heap.size, 3, none⟩ = some (.slice (some ⟨bp, op, none⟩) P.np cp) ∧ w'.cell? ⟨w.heap.size, 4, none⟩ = some (.slice Ab P.nb cb) ∧ w'.cell? ⟨w.heap.size, 5, none⟩ = some (.int .i64 P.fuel) ∧ w'.cell? ⟨(w.heap.size + 1), 7, none⟩ = some (.int .i64 (m : Nat)) ∧ w'.cell? ⟨bp, op + m * 2 + 1, none⟩ = some (.slice A1 (P.pl m) c1) ∧ Below u2.heap.size u2 w')
              ((suffices hBB : Below u2.heap.size u2 _ from ⟨(hBB.cell (p := ⟨w.heap.size, 0, none⟩) hPl).trans q0, (hBB.cell (p := ⟨w.heap.size, 1, none⟩) hPl).trans q1, (hBB.cell (p := ⟨w.heap.size, 2, none⟩) hPl).trans q2, (hBB.cell (p := ⟨w.heap.size, 3, none⟩) hPl).trans q3, (hBB.cell (p := ⟨w.heap.size, 4, none⟩) hPl).trans q4, (hBB.cell (p := ⟨w.heap.size, 5, none⟩) hPl).trans q5, (hBB.cell (p := ⟨(w.heap.size + 1), 7, none⟩) hVl).trans v7, (hBB.cell (p := ⟨bp, op + m * 2 + 1, none⟩) hbp).trans z1, hBB⟩; first | exact (Below.refl _ u2).drew | exact hold8c (by assumption) | (refine stepB' (hold8c (by assumption)) ?_; assumption)))
              (first
                | (go_at_call 73; with_reducible refine (CP.out _ (hold8c (by assumption))).mono ?_; rintro e w5 ⟨rfl, hb5⟩))
      all_goals have hq := hB2.trans ((hold8c (by assumption)).mono hB2.size)
      all_goals go_wp2_with fail
      all_goals go_ret
      all_goals exact ⟨rfl, hq⟩
  have e8 : ((P.st i).kind == 8) = false := beq_eq_false_iff_ne.2 k8
  have HR : Hid (R = 1) := Lib.hid (by rw [hR, stV, if_neg k3, if_neg k5, if_neg k6, if_neg k7, if_neg k8])
  clear hR hS k3 k5 k6 k7 k8 hx hy
  go_enter Try.func121, Try.ntmps121
  go_upto_region 1 with fail
  rw [← hu1, ← hu2]
  clear hu1 hu2
  go_wp2_with fail
  go_ret
  exact ⟨congrArg (fun z => Ending.returned (.int .i64 z)) HR.out.symm, hB2⟩

end Go.Proofs.Ytcdgbjklfmlhkaa
