/-
  Calls: the model's walk through a block. (Written by gen_pgcg.py.)
-/
import Derived.Test.YtdeilceakhgjlaaPgCg0
import Derived.Test.YtdeilceakhgjlaaPgVs
namespace Go.Proofs.Ytdeilceakhgjlaa
open Go.RowKit Num

/-- What the walks through the blocks ask of a program. -/
def PgW (P : Prg) : Prop := P.np ≤ 3 ∧ (∀ j, j < P.ns → (P.st j).kind = 8 → 0 ≤ (P.st j).proc ∧ (P.st j).proc ≤ (P.np : Int) - 1) ∧ InR 0 P.ns P.nb P.bd ∧ (∀ j, j < P.np → InR 0 P.ns (P.pl j) (P.pb j)) ∧ ∀ j, j < P.ns → InR ((j + 1 : Nat) : Int) P.ns (P.st j).nt (P.st j).th ∧ InR ((j + 1 : Nat) : Int) P.ns (P.st j).ne (P.st j).el
theorem PgOk.w {P : Prg} (F : PgOk P) : PgW P := ⟨F.2.2.1.2, fun j hj k8 => ((stOkCall k8).1 (F.2.2.2.2.2.1 j hj)).1, F.2.2.2.2.2.2.1, F.2.2.2.2.2.2.2.1, F.2.2.2.2.2.2.2.2.1⟩
/-- What the walk through a block does: the model. -/
def BCS (P : Prg) (d : Nat) : Prop := ∀ (lo lo1 lo2 n : Nat) (b : Nat → Int) (Av Ax As Ap Ab A1 : Option Addr) (cv cx cs cp cb c1 : Nat) (u : Nat → Bool) (xv : Value) (W0 w : World), PgAt lo W0 Av Ax As Ap Ab P → IntsAt lo1 W0 A1 n b → Below W0.heap.size W0 w → lo2 ≤ w.heap.size → n ≤ 1048576 → (∀ j, j < n → 0 ≤ b j ∧ b j < (P.ns : Int) ∧ (P.ns : Int) ≤ b j + (d : Int)) → OutT lo2 w xv (ups u 3) →
  Calls Try.prog 43 #[.agg #[.slice Av P.nv cv, .slice Ax P.nx cx, .slice As P.ns cs, .slice Ap P.np cp, .slice Ab P.nb cb, .int .i64 P.fuel], .slice A1 n c1, xv] w fun e w' => ∃ xv', e = .returned xv' ∧ OutT lo2 w' xv' (ups (foldU (clD P d) b n u) 3) ∧ Below w.heap.size w w'

set_option maxRecDepth 100000 in
set_option maxHeartbeats 12800000 in
theorem bcS_of (P : Prg) (hs : P.small) (hwp : PgW P) (d : Nat) (hB : ∀ d', d = d' + 1 → BCS P d') : BCS P d := by
  intro lo lo1 lo2 n b Av Ax As Ap Ab A1 cv cx cs cp cb c1 u xv W0 w hp hi hb0 hl2 hn hb hou
  have hP := Box.new w 37 #[.slice Av P.nv cv, .slice Ax P.nx cx, .slice As P.ns cs, .slice Ap P.np cp, .slice Ab P.nb cb, .int .i64 P.fuel]
  have hal := (Below.refl w.heap.size w).alloc (Nat.le_refl _) (.cells #[.slice Av P.nv cv, .slice Ax P.nx cx, .slice As P.ns cs, .slice Ap P.np cp, .slice Ab P.nb cb, .int .i64 P.fuel] 37)
  have hou1 := hou.below hal (Nat.le_refl _)
  have hcb1 := hb0.trans (hal.mono hb0.size)
  obtain ⟨q0, q1, q2, q3, q4, q5, qf⟩ := hP.six
  have HP := Lib.hid hp
  have HI := Lib.hid hi
  have HBD := Lib.hid hb
  have HB := Lib.hid hB
  have hnp := hwp.1
  have HWP := Lib.hid hwp
  have HSM := Lib.hid hs
  clear hp hi hb hB hwp hs hou
  go_enter Try.func43, Try.ntmps43
  go_wp2_with fail
  clear q0 q1 q2 q3 q4 q5 qf
  obtain ⟨w1, hw1⟩ : ∃ w1, w1 = w.alloc (.cells #[.slice Av P.nv cv, .slice Ax P.nx cx, .slice As P.ns cs, .slice Ap P.np cp, .slice Ab P.nb cb, .int .i64 P.fuel] 37) := ⟨_, rfl⟩
  rw [← hw1] at hP hal hou1 hcb1 ⊢
  clear hw1
  go_loopg [2, 12] n (fun q sv iv wr => ∃ (k : Nat) (uk : Nat → Bool), k + q = n ∧ iv = .int .i64 (k : Nat) ∧ Hid (uk = foldU (clD P d) b k u) ∧ OutT lo2 wr sv (ups uk 3) ∧ Below w1.heap.size w1 wr)
  case atStart => exact ⟨0, u, by omega, rfl, Lib.hid rfl, hou1, Below.refl _ _⟩
  case round =>
    rename World => w4
    obtain ⟨k, uk, hk, rfl, hσ, hou, hkg⟩ := hrel
    replace hP := hP.below hkg hP.lt
    have hcb := hcb1.trans (hkg.mono hcb1.size)
    by_cases hk0' : k < n
    · obtain ⟨hb0, hb1, hb2⟩ := HBD.out k hk0'
      obtain ⟨m, hm⟩ : ∃ m : Nat, b k = (m : Int) := ⟨(b k).toNat, by omega⟩
      obtain ⟨d', rfl⟩ : ∃ d', d = d' + 1 := ⟨d - 1, by omega⟩
      have hmn : m < P.ns := by omega
      have hmi : (m : Int) < (P.ns : Int) := by omega
      obtain ⟨ba, oa, rfl, hba, s0⟩ := (HI.out.below hcb (Nat.le_refl _)).at_ hk0'
      rw [hm] at s0
      obtain ⟨bs, os, A3, c3, A4, c4, A5, c5, rfl, hbs, r0, r1, r2, r3, r4, r5, r6, r7, _, g4, g5⟩ := HP.out.s.at_ hmn
      have t0 := (hcb.cell (p := ⟨bs, os + m * 8, none⟩) hbs).trans r0
      have t1 := (hcb.cell (p := ⟨bs, os + m * 8 + 1, none⟩) hbs).trans r1
      have t2 := (hcb.cell (p := ⟨bs, os + m * 8 + 2, none⟩) hbs).trans r2
      have t3 := (hcb.cell (p := ⟨bs, os + m * 8 + 3, none⟩) hbs).trans r3
      have t4 := (hcb.cell (p := ⟨bs, os + m * 8 + 4, none⟩) hbs).trans r4
      have t5 := (hcb.cell (p := ⟨bs, os + m * 8 + 5, none⟩) hbs).trans r5
      have t6 := (hcb.cell (p := ⟨bs, os + m * 8 + 6, none⟩) hbs).trans r6
      have t7 := (hcb.cell (p := ⟨bs, os + m * 8 + 7, none⟩) hbs).trans r7
      have hV := Box.new w4 110 #[.int .i64 (P.st m).kind, .int .i64 (P.st m).var, .int .i64 (P.st m).ex, .slice A3 (P.st m).nc c3, .slice A4 (P.st m).nt c4, .slice A5 (P.st m).ne c5, .int .i64 (P.st m).times, .int .i64 (P.st m).proc]
      have ha4 := (Below.refl w4.heap.size w4).alloc (Nat.le_refl _) (.cells #[.int .i64 (P.st m).kind, .int .i64 (P.st m).var, .int .i64 (P.st m).ex, .slice A3 (P.st m).nc c3, .slice A4 (P.st m).nt c4, .slice A5 (P.st m).ne c5, .int .i64 (P.st m).times, .int .i64 (P.st m).proc] 110)
      obtain ⟨q0, q1, q2, q3, q4, q5, qf⟩ := hP.six
      replace hou := hou.below ha4 (Nat.le_refl _)
      replace hP := hP.alloc (.cells #[.int .i64 (P.st m).kind, .int .i64 (P.st m).var, .int .i64 (P.st m).ex, .slice A3 (P.st m).nc c3, .slice A4 (P.st m).nt c4, .slice A5 (P.st m).ne c5, .int .i64 (P.st m).times, .int .i64 (P.st m).proc] 110)
      replace hcb := hcb.trans (ha4.mono hcb.size)
      replace hkg := hkg.trans (ha4.mono hkg.size)
      have hr := HWP.out.2.2.2.2 m hmn
      have CT : Hid (∀ (τ : Nat → Bool) (x : Value) W, lo2 ≤ W.heap.size → Below W0.heap.size W0 W → OutT lo2 W x (ups τ 3) → _) := Lib.hid fun τ x W hu hw hs => HB.out d' rfl lo lo lo2 (P.st m).nt (P.st m).th Av Ax (some ⟨bs, os, none⟩) Ap Ab A4 cv cx cs cp cb c4 τ x W0 W HP.out g4 hw hu (HSM.out.st m hmn).nt (fun j hj => by have := hr.1 j hj; omega) hs
      have CE : Hid (∀ (τ : Nat → Bool) (x : Value) W, lo2 ≤ W.heap.size → Below W0.heap.size W0 W → OutT lo2 W x (ups τ 3) → _) := Lib.hid fun τ x W hu hw hs => HB.out d' rfl lo lo lo2 (P.st m).ne (P.st m).el Av Ax (some ⟨bs, os, none⟩) Ap Ab A5 cv cx cs cp cb c5 τ x W0 W HP.out g5 hw hu (HSM.out.st m hmn).ne (fun j hj => by have := hr.2 j hj; omega) hs
      have HN : Hid (∀ τ, τ = clS P (P.st m) uk → foldU (clD P d') (P.st m).el (P.st m).ne (foldU (clD P d') (P.st m).th (P.st m).nt τ) = foldU (clD P (d' + 1)) b (k + 1) u) := Lib.hid fun τ hτ => by
        rw [foldU_succ, ← hσ.out, clD_succ, hm, Int.toNat_natCast, ← hτ]
      obtain ⟨w5, hw5⟩ : ∃ w5, w5 = w4.alloc (.cells #[.int .i64 (P.st m).kind, .int .i64 (P.st m).var, .int .i64 (P.st m).ex, .slice A3 (P.st m).nc c3, .slice A4 (P.st m).nt c4, .slice A5 (P.st m).ne c5, .int .i64 (P.st m).times, .int .i64 (P.st m).proc] 110) := ⟨_, rfl⟩
      rw [← hw5] at hV hou hP hcb hkg
      have hsz5 : w.heap.size ≤ w5.heap.size := by have := hal.size; have := hkg.size; omega
      clear hb0 hb1 hb2 hm hba r0 r1 r2 r3 r4 r5 r6 r7 g4 g5 hr ha4
      go_upto_region 5 with fail
      rw [← hw5]
      clear hw5 t0 t1 t2 t3 t4 t5 t6 t7 s0 q0 q1 q2 q3 q4 q5 qf
      obtain ⟨q0, q1, q2, q3, q4, q5, qf⟩ := hP.six
      obtain ⟨v0, v1, v2, v3, v4, v5, v6, v7, vf⟩ := hV.eight
      by_cases k8 : (P.st m).kind = 8
      · have e8 : ((P.st m).kind == 8) = true := by rw [k8]; rfl
        have hpp := HWP.out.2.1 m hmn k8
        obtain ⟨pq, hq⟩ : ∃ pq : Nat, (P.st m).proc = (pq : Int) := ⟨(P.st m).proc.toNat, by omega⟩
        have hq3 : pq < 3 := by omega
        have HT : Hid (setU uk pq = clS P (P.st m) uk) := Lib.hid (by rw [clS, if_pos ⟨k8, by omega⟩, hq, Int.toNat_natCast])
        rw [hq] at v7
        clear k8 hpp hq
        go_wp2_with (first
         | (go_at_call 53
            refine (put_own lo2 uk 3 pq _ _ hq3 (by omega) (by omega) hou).mono ?_
            rintro e w6 ⟨xv6, rfl, ho6, hb6⟩
            replace hou := ho6
            replace hcb := hcb.trans (hb6.mono hcb.size)
            replace hkg := hkg.trans (hb6.mono hkg.size)
            replace hsz5 := Nat.le_trans hsz5 hb6.size
            clear ho6 q0 q1 q2 q3 q4 q5 qf v0 v1 v2 v3 v4 v5 v6 v7 vf
            replace hP := hP.below hb6 hP.lt
            replace hV := hV.below hb6 hV.lt
            obtain ⟨q0, q1, q2, q3, q4, q5, qf⟩ := hP.six
            obtain ⟨v0, v1, v2, v3, v4, v5, v6, v7, vf⟩ := hV.eight)
         | (go_at_call 43
            with_reducible refine (CT.out _ _ _ (by omega) hcb hou).mono ?_
            rintro e w8 ⟨xv8, rfl, hou8, hk8⟩
            have hcb8 := hcb.trans (hk8.mono hcb.size)
            replace hkg := hkg.trans (hk8.mono hkg.size)
            replace hsz5 := Nat.le_trans hsz5 hk8.size
            clear q0 q1 q2 q3 q4 q5 qf v0 v1 v2 v3 v4 v5 v6 v7 vf
            replace hP := hP.below hk8 hP.lt
            replace hV := hV.below hk8 hV.lt
            obtain ⟨q0, q1, q2, q3, q4, q5, qf⟩ := hP.six
            obtain ⟨v0, v1, v2, v3, v4, v5, v6, v7, vf⟩ := hV.eight)
         | (go_at_call 43
            with_reducible refine (CE.out _ _ _ (by omega) hcb8 hou8).mono ?_
            rintro e w9 ⟨xv9, rfl, hou9, hk9⟩
            replace hkg := hkg.trans (hk9.mono hkg.size)))
        go_roundg (gk - 1)
        case rel => exact ⟨k + 1, _, by omega, by go_num, Lib.hid (HN.out _ HT.out), hou9, hkg⟩
        case measure => omega
      · have e8 : ((P.st m).kind == 8) = false := beq_eq_false_iff_ne.2 k8
        have HT : Hid (uk = clS P (P.st m) uk) := Lib.hid (by rw [clS, if_neg (fun h => k8 h.1)])
        clear k8
        go_wp2_with (first
         | (go_at_call 43
            with_reducible refine (CT.out _ _ _ (by omega) hcb hou).mono ?_
            rintro e w8 ⟨xv8, rfl, hou8, hk8⟩
            have hcb8 := hcb.trans (hk8.mono hcb.size)
            replace hkg := hkg.trans (hk8.mono hkg.size)
            replace hsz5 := Nat.le_trans hsz5 hk8.size
            clear q0 q1 q2 q3 q4 q5 qf v0 v1 v2 v3 v4 v5 v6 v7 vf
            replace hP := hP.below hk8 hP.lt
            replace hV := hV.below hk8 hV.lt
            obtain ⟨q0, q1, q2, q3, q4, q5, qf⟩ := hP.six
            obtain ⟨v0, v1, v2, v3, v4, v5, v6, v7, vf⟩ := hV.eight)
         | (go_at_call 43
            with_reducible refine (CE.out _ _ _ (by omega) hcb8 hou8).mono ?_
            rintro e w9 ⟨xv9, rfl, hou9, hk9⟩
            replace hkg := hkg.trans (hk9.mono hkg.size)))
        go_roundg (gk - 1)
        case rel => exact ⟨k + 1, _, by omega, by go_num, Lib.hid (HN.out _ HT.out), hou9, hkg⟩
        case measure => omega
    · obtain rfl : k = n := by omega
      go_wp2_with fail
      go_ret
      exact ⟨_, rfl, by rw [← hσ.out]; exact hou, hal.trans (hkg.mono hal.size)⟩

theorem bcS_all (P : Prg) (hs : P.small) (F : PgW P) : ∀ d, BCS P d
  | 0 => bcS_of P hs F 0 (fun d' h => by omega)
  | d + 1 => bcS_of P hs F (d + 1) (fun d' h => (show d = d' by omega) ▸ bcS_all P hs F d)

end Go.Proofs.Ytdeilceakhgjlaa
