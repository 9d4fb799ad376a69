/-
  Calls: the program's walk through a block. (Written by gen_pgcg.py.)
-/
import Derived.Test.YtdeilceakhgjlaaPgCg1
import Derived.Test.YtdeilceakhgjlaaPgAs2
namespace Go.Proofs.Ytdeilceakhgjlaa
open Go.RowKit Num

/-- The marks in memory. -/
def MkI (u : Nat → Bool) (G : Nat) (w : World) : Prop := ∃ cs, Box w G 146 cs ∧ BoolsC cs 3 u
theorem MkI.lt {u : Nat → Bool} {G : Nat} {w : World} (h : MkI u G w) : G < w.heap.size := by
  obtain ⟨cs, hb, _⟩ := h
  exact hb.lt
theorem MkI.below {u : Nat → Bool} {G : Nat} {w w' : World} (h : MkI u G w) (hb : Below w.heap.size w w') : MkI u G w' := by
  obtain ⟨cs, h1, h2⟩ := h
  exact ⟨cs, h1.below hb h1.lt, h2⟩
theorem MkI.bit {u : Nat → Bool} {G q : Nat} {w : World} (h : MkI u G w) (hq : q < 3) : w.cell? ⟨G, q, none⟩ = some (.bool (u q)) ∧ w.frozen? ⟨G, q, none⟩ = false := by
  obtain ⟨cs, h1, h2⟩ := h
  exact ⟨h2.at_ h1 hq, h1.free _⟩
theorem MkI.mark {u : Nat → Bool} {G q : Nat} {w : World} (h : MkI u G w) (hq : q < 3) : MkI (setU u q) G (w.setCell ⟨G, q, none⟩ (.bool true)) := by
  obtain ⟨cs, h1, h2⟩ := h
  exact ⟨_, h1.set _ _, h2.put hq⟩
theorem hold1c {p0 K : Prop} (h : p0 ∧ K) : K := h.2
/-- What the walk through a block does: the program. -/
def BCI (P : Prg) (d : Nat) : Prop := ∀ (lo lo1 n : Nat) (b : Nat → Int) (Av Ax As Ap Ab A1 : Option Addr) (cv cx cs cp cb c1 G : Nat) (u : Nat → Bool) (W0 w : World), PgAt lo W0 Av Ax As Ap Ab P → IntsAt lo1 W0 A1 n b → Below W0.heap.size W0 w → W0.heap.size ≤ G → n ≤ 1048576 → (∀ j, j < n → 0 ≤ b j ∧ b j < (P.ns : Int) ∧ (P.ns : Int) ≤ b j + (d : Int)) → MkI u G w →
  Calls Try.prog 112 #[.agg #[.slice Av P.nv cv, .slice Ax P.nx cx, .slice As P.ns cs, .slice Ap P.np cp, .slice Ab P.nb cb, .int .i64 P.fuel], .slice A1 n c1, .pointer (some ⟨G, 0, none⟩)] w fun e w' => (∃ v, e = .returned v) ∧ MkI (foldU (clD P d) b n u) G w' ∧ KeepG G w w'

set_option maxRecDepth 100000 in
set_option maxHeartbeats 12800000 in
theorem bcI_of (P : Prg) (hs : P.small) (hwp : PgW P) (d : Nat) (hB : ∀ d', d = d' + 1 → BCI P d') : BCI P d := by
  intro lo lo1 n b Av Ax As Ap Ab A1 cv cx cs cp cb c1 G u W0 w hp hi hb0 hGW hn hb hst
  have hGl := hst.lt
  have hP := Box.new w 37 #[.slice Av P.nv cv, .slice Ax P.nx cx, .slice As P.ns cs, .slice Ap P.np cp, .slice Ab P.nb cb, .int .i64 P.fuel]
  have hal := (Below.refl w.heap.size w).alloc (Nat.le_refl _) (.cells #[.slice Av P.nv cv, .slice Ax P.nx cx, .slice As P.ns cs, .slice Ap P.np cp, .slice Ab P.nb cb, .int .i64 P.fuel] 37)
  have hk0 := KeepG.of_below hal (Nat.le_of_lt hGl)
  have hst1 := hst.below hal
  have hcb1 := hb0.trans (hal.mono (Nat.le_trans hGW (Nat.le_of_lt hGl)))
  obtain ⟨q0, q1, q2, q3, q4, q5, qf⟩ := hP.six
  have HP := Lib.hid hp
  have HI := Lib.hid hi
  have HBD := Lib.hid hb
  have HGW := Lib.hid hGW
  have HB := Lib.hid hB
  have hnp := hwp.1
  have HWP := Lib.hid hwp
  have HSM := Lib.hid hs
  have hPG : w.heap.size ≠ G := by omega
  clear hp hi hb hB hwp hs hst hal
  go_enter Try.func112, Try.ntmps112
  go_wp2_with fail
  clear q0 q1 q2 q3 q4 q5 qf
  obtain ⟨w1, hw1⟩ : ∃ w1, w1 = w.alloc (.cells #[.slice Av P.nv cv, .slice Ax P.nx cx, .slice As P.ns cs, .slice Ap P.np cp, .slice Ab P.nb cb, .int .i64 P.fuel] 37) := ⟨_, rfl⟩
  rw [← hw1] at hP hk0 hst1 hcb1 ⊢
  clear hw1
  go_loopg [11] n (fun q iv wr => ∃ (k : Nat) (uk : Nat → Bool), k + q = n ∧ iv = .int .i64 (k : Nat) ∧ Hid (uk = foldU (clD P d) b k u) ∧ MkI uk G wr ∧ KeepG G w1 wr)
  case atStart => exact ⟨0, u, by omega, rfl, Lib.hid rfl, hst1, KeepG.refl _ _⟩
  case round =>
    rename World => w4
    obtain ⟨k, uk, hk, rfl, hσ, hst, hkg⟩ := hrel
    replace hP := hP.only hkg.2 hPG
    have hcb := hcb1.trans (hkg.1.mono HGW.out)
    by_cases hk0' : k < n
    · obtain ⟨hb0, hb1, hb2⟩ := HBD.out k hk0'
      obtain ⟨m, hm⟩ : ∃ m : Nat, b k = (m : Int) := ⟨(b k).toNat, by omega⟩
      obtain ⟨d', rfl⟩ : ∃ d', d = d' + 1 := ⟨d - 1, by omega⟩
      have hmn : m < P.ns := by omega
      have hmi : (m : Int) < (P.ns : Int) := by omega
      obtain ⟨ba, oa, rfl, hba, s0⟩ := (HI.out.below hcb (Nat.le_refl _)).at_ hk0'
      rw [hm] at s0
      obtain ⟨bs, os, A3, c3, A4, c4, A5, c5, rfl, hbs, r0, r1, r2, r3, r4, r5, r6, r7, _, g4, g5⟩ := HP.out.s.at_ hmn
      have t0 := (hcb.cell (p := ⟨bs, os + m * 8, none⟩) hbs).trans r0
      have t1 := (hcb.cell (p := ⟨bs, os + m * 8 + 1, none⟩) hbs).trans r1
      have t2 := (hcb.cell (p := ⟨bs, os + m * 8 + 2, none⟩) hbs).trans r2
      have t3 := (hcb.cell (p := ⟨bs, os + m * 8 + 3, none⟩) hbs).trans r3
      have t4 := (hcb.cell (p := ⟨bs, os + m * 8 + 4, none⟩) hbs).trans r4
      have t5 := (hcb.cell (p := ⟨bs, os + m * 8 + 5, none⟩) hbs).trans r5
      have t6 := (hcb.cell (p := ⟨bs, os + m * 8 + 6, none⟩) hbs).trans r6
      have t7 := (hcb.cell (p := ⟨bs, os + m * 8 + 7, none⟩) hbs).trans r7
      have hV := Box.new w4 110 #[.int .i64 (P.st m).kind, .int .i64 (P.st m).var, .int .i64 (P.st m).ex, .slice A3 (P.st m).nc c3, .slice A4 (P.st m).nt c4, .slice A5 (P.st m).ne c5, .int .i64 (P.st m).times, .int .i64 (P.st m).proc]
      have ha4 := (Below.refl w4.heap.size w4).alloc (Nat.le_refl _) (.cells #[.int .i64 (P.st m).kind, .int .i64 (P.st m).var, .int .i64 (P.st m).ex, .slice A3 (P.st m).nc c3, .slice A4 (P.st m).nt c4, .slice A5 (P.st m).ne c5, .int .i64 (P.st m).times, .int .i64 (P.st m).proc] 110)
      have hGl4 := hst.lt
      have hVG : w4.heap.size ≠ G := by omega
      obtain ⟨q0, q1, q2, q3, q4, q5, qf⟩ := hP.six
      replace hst := hst.below ha4
      replace hP := hP.alloc (.cells #[.int .i64 (P.st m).kind, .int .i64 (P.st m).var, .int .i64 (P.st m).ex, .slice A3 (P.st m).nc c3, .slice A4 (P.st m).nt c4, .slice A5 (P.st m).ne c5, .int .i64 (P.st m).times, .int .i64 (P.st m).proc] 110)
      replace hcb := hcb.trans (ha4.mono hcb.size)
      replace hkg := hkg.trans (KeepG.of_below ha4 (Nat.le_of_lt hGl4))
      have hr := HWP.out.2.2.2.2 m hmn
      have CT : Hid (∀ (τ : Nat → Bool) W, Below W0.heap.size W0 W → MkI τ G W → _) := Lib.hid fun τ W hw hs => HB.out d' rfl lo lo (P.st m).nt (P.st m).th Av Ax (some ⟨bs, os, none⟩) Ap Ab A4 cv cx cs cp cb c4 G τ W0 W HP.out g4 hw HGW.out (HSM.out.st m hmn).nt (fun j hj => by have := hr.1 j hj; omega) hs
      have CE : Hid (∀ (τ : Nat → Bool) W, Below W0.heap.size W0 W → MkI τ G W → _) := Lib.hid fun τ W hw hs => HB.out d' rfl lo lo (P.st m).ne (P.st m).el Av Ax (some ⟨bs, os, none⟩) Ap Ab A5 cv cx cs cp cb c5 G τ W0 W HP.out g5 hw HGW.out (HSM.out.st m hmn).ne (fun j hj => by have := hr.2 j hj; omega) hs
      have HN : Hid (∀ τ, τ = clS P (P.st m) uk → foldU (clD P d') (P.st m).el (P.st m).ne (foldU (clD P d') (P.st m).th (P.st m).nt τ) = foldU (clD P (d' + 1)) b (k + 1) u) := Lib.hid fun τ hτ => by
        rw [foldU_succ, ← hσ.out, clD_succ, hm, Int.toNat_natCast, ← hτ]
      obtain ⟨w5, hw5⟩ : ∃ w5, w5 = w4.alloc (.cells #[.int .i64 (P.st m).kind, .int .i64 (P.st m).var, .int .i64 (P.st m).ex, .slice A3 (P.st m).nc c3, .slice A4 (P.st m).nt c4, .slice A5 (P.st m).ne c5, .int .i64 (P.st m).times, .int .i64 (P.st m).proc] 110) := ⟨_, rfl⟩
      rw [← hw5] at hV hst hP hcb hkg
      have hGl5 := hst.lt
      clear hb0 hb1 hb2 hm hba r0 r1 r2 r3 r4 r5 r6 r7 g4 g5 hr ha4
      go_upto_region 5 with fail
      rw [← hw5]
      clear hw5 t0 t1 t2 t3 t4 t5 t6 t7 s0 q0 q1 q2 q3 q4 q5 qf
      obtain ⟨q0, q1, q2, q3, q4, q5, qf⟩ := hP.six
      obtain ⟨v0, v1, v2, v3, v4, v5, v6, v7, vf⟩ := hV.eight
      by_cases k8 : (P.st m).kind = 8
      · have e8 : ((P.st m).kind == 8) = true := by rw [k8]; rfl
        have hpp := HWP.out.2.1 m hmn k8
        obtain ⟨pq, hq⟩ : ∃ pq : Nat, (P.st m).proc = (pq : Int) := ⟨(P.st m).proc.toNat, by omega⟩
        have hq3 : pq < 3 := by omega
        have hqi : (pq : Int) < 3 := by omega
        have hqi0 : (0 : Int) ≤ (pq : Int) := by omega
        have HT : Hid (setU uk pq = clS P (P.st m) uk) := Lib.hid (by rw [clS, if_pos ⟨k8, by omega⟩, hq, Int.toNat_natCast])
        obtain ⟨p0, pf⟩ := hst.bit hq3
        have HQ := Lib.hid hq
        rw [hq] at v7
        clear k8 hpp hq
        go_upto_region 6 with fail
        go_region_held3 (fun w' => w'.cell? ⟨w4.heap.size, 7, none⟩ = some (.int .i64 (pq : Nat)) ∧ KeepG G w5 w')
          ((suffices hK : KeepG G w5 _ from ⟨((hV.only hK.2 hVG).cell 7).trans (by rw [HQ.out]; rfl), hK⟩; first | exact ⟨(Below.refl _ w5).drew, Only.drewN (Only.refl _ _) 1⟩ | exact KeepG.refl _ _ | exact hold1c (by assumption) | (exact KeepG.trans (hold1c (by assumption)) (KeepG.set G _ _ _))))
          (fail)
        have hk6 : KeepG G w5 _ := hold1c (by assumption)
        have hst := (hst.mark hq3).below (Below.refl _ _).drew
        generalize (World.setCell w5 ⟨G, pq, none⟩ (.bool true)).drew = w6 at hk6 hst ⊢
        replace hcb := hcb.trans (hk6.1.mono HGW.out)
        clear p0 pf q0 q1 q2 q3 q4 q5 qf v0 v1 v2 v3 v4 v5 v6 v7 vf
        replace hP := hP.only hk6.2 hPG
        replace hV := hV.only hk6.2 hVG
        replace hkg := hkg.trans hk6
        obtain ⟨q0, q1, q2, q3, q4, q5, qf⟩ := hP.six
        obtain ⟨v0, v1, v2, v3, v4, v5, v6, v7, vf⟩ := hV.eight
        go_wp2_with (first
         | (go_at_call 112
            with_reducible refine (CT.out _ _ hcb hst).mono ?_
            rintro e w8 ⟨⟨vr8, rfl⟩, hst8, hk8⟩
            have hcb8 := hcb.trans (hk8.1.mono HGW.out)
            clear q0 q1 q2 q3 q4 q5 qf v0 v1 v2 v3 v4 v5 v6 v7 vf
            replace hP := hP.only hk8.2 hPG
            replace hV := hV.only hk8.2 hVG
            replace hkg := hkg.trans hk8
            obtain ⟨q0, q1, q2, q3, q4, q5, qf⟩ := hP.six
            obtain ⟨v0, v1, v2, v3, v4, v5, v6, v7, vf⟩ := hV.eight)
         | (go_at_call 112
            with_reducible refine (CE.out _ _ hcb8 hst8).mono ?_
            rintro e w9 ⟨⟨vr9, rfl⟩, hst9, hk9⟩
            replace hkg := hkg.trans hk9))
        go_roundg (gk - 1)
        case rel => exact ⟨k + 1, _, by omega, by go_num, Lib.hid (HN.out _ HT.out), hst9, hkg⟩
        case measure => omega
      · have e8 : ((P.st m).kind == 8) = false := beq_eq_false_iff_ne.2 k8
        have HT : Hid (uk = clS P (P.st m) uk) := Lib.hid (by rw [clS, if_neg (fun h => k8 h.1)])
        clear k8
        go_wp2_with (first
         | (go_at_call 112
            with_reducible refine (CT.out _ _ hcb hst).mono ?_
            rintro e w8 ⟨⟨vr8, rfl⟩, hst8, hk8⟩
            have hcb8 := hcb.trans (hk8.1.mono HGW.out)
            clear q0 q1 q2 q3 q4 q5 qf v0 v1 v2 v3 v4 v5 v6 v7 vf
            replace hP := hP.only hk8.2 hPG
            replace hV := hV.only hk8.2 hVG
            replace hkg := hkg.trans hk8
            obtain ⟨q0, q1, q2, q3, q4, q5, qf⟩ := hP.six
            obtain ⟨v0, v1, v2, v3, v4, v5, v6, v7, vf⟩ := hV.eight)
         | (go_at_call 112
            with_reducible refine (CE.out _ _ hcb8 hst8).mono ?_
            rintro e w9 ⟨⟨vr9, rfl⟩, hst9, hk9⟩
            replace hkg := hkg.trans hk9))
        go_roundg (gk - 1)
        case rel => exact ⟨k + 1, _, by omega, by go_num, Lib.hid (HN.out _ HT.out), hst9, hkg⟩
        case measure => omega
    · obtain rfl : k = n := by omega
      go_wp2_with fail
      go_end0
      exact ⟨⟨_, rfl⟩, by rw [← hσ.out]; exact hst, hk0.trans hkg⟩

theorem bcI_all (P : Prg) (hs : P.small) (F : PgW P) : ∀ d, BCI P d
  | 0 => bcI_of P hs F 0 (fun d' h => by omega)
  | d + 1 => bcI_of P hs F (d + 1) (fun d' h => (show d = d' by omega) ▸ bcI_all P hs F d)

set_option maxRecDepth 100000 in
set_option maxHeartbeats 12800000 in
/-- What a block calls: the program's list. -/
theorem callsIn_any (lo lo1 : Nat) (P : Prg) (n : Nat) (b : Nat → Int) (Av Ax As Ap Ab A1 : Option Addr) (cv cx cs cp cb c1 : Nat) (W0 w : World) (hs : P.small) (F : PgW P) (hp : PgAt lo W0 Av Ax As Ap Ab P) (hi : IntsAt lo1 W0 A1 n b) (hb0 : Below W0.heap.size W0 w) (hn : n ≤ 1048576) (hb : ∀ j, j < n → 0 ≤ b j ∧ b j < (P.ns : Int)) :
    Calls Try.prog 81 #[.agg #[.slice Av P.nv cv, .slice Ax P.nx cx, .slice As P.ns cs, .slice Ap P.np cp, .slice Ab P.nb cb, .int .i64 P.fuel], .slice A1 n c1] w fun e w' => ∃ v, e = .returned v ∧ OutT w.heap.size w' v (ups (foldU (clD P P.ns) b n nob) 3) ∧ Below w.heap.size w w' := by
  have hP := Box.new w 37 #[.slice Av P.nv cv, .slice Ax P.nx cx, .slice As P.ns cs, .slice Ap P.np cp, .slice Ab P.nb cb, .int .i64 P.fuel]
  have hB := (Below.refl w.heap.size w).alloc (Nat.le_refl _) (.cells #[.slice Av P.nv cv, .slice Ax P.nx cx, .slice As P.ns cs, .slice Ap P.np cp, .slice Ab P.nb cb, .int .i64 P.fuel] 37)
  obtain ⟨w1, hw1⟩ : ∃ w1, w1 = w.alloc (.cells #[.slice Av P.nv cv, .slice Ax P.nx cx, .slice As P.ns cs, .slice Ap P.np cp, .slice Ab P.nb cb, .int .i64 P.fuel] 37) := ⟨_, rfl⟩
  rw [← hw1] at hP hB
  have hbx := Box.new w1 146 #[.bool false, .bool false, .bool false]
  have ha1 := (Below.refl w1.heap.size w1).alloc (Nat.le_refl _) (.cells #[.bool false, .bool false, .bool false] 146)
  have hA0 : MkI nob w1.heap.size (w1.alloc (.cells #[.bool false, .bool false, .bool false] 146)) := ⟨_, hbx, rfl, fun j hj => by
    match j, hj with
    | 0, _ => rfl
    | 1, _ => rfl
    | 2, _ => rfl⟩
  have CA : Hid (∀ W, Below W0.heap.size W0 W → MkI nob w1.heap.size W → _) := Lib.hid fun W hw hx => bcI_all P hs F P.ns lo lo1 n b Av Ax As Ap Ab A1 cv cx cs cp cb c1 w1.heap.size nob W0 W hp hi hw (Nat.le_trans hb0.size hB.size) hn (fun j hj => by have := hb j hj; omega) hx
  have hcb := (hb0.trans (hB.mono hb0.size)).trans (ha1.mono (Nat.le_trans hb0.size hB.size))
  have hP3 := hP.alloc (.cells #[.bool false, .bool false, .bool false] 146)
  obtain ⟨q0, q1, q2, q3, q4, q5, qf⟩ := hP3.six
  clear hp hi hb hs F
  go_enter Try.func81, Try.ntmps81
  go_upto_region 1 with fail
  rw [← hw1]
  clear hw1
  go_wp2_with (first
    | (go_at_call 112
       refine (CA.out _ hcb hA0).mono ?_
       rintro e w5 ⟨⟨v5, rfl⟩, hst5, hk5⟩
       clear q0 q1 q2 q3 q4 q5 qf
       have hB5 := (hB.trans (ha1.mono hB.size)).trans (hk5.1.mono hB.size)
       obtain ⟨cs5, hb5, hc5⟩ := hst5
       have hbools : BoolsAt w5 (some ⟨w1.heap.size, 0, none⟩) 3 (foldU (clD P P.ns) b n nob) := fun j hj => ⟨_, 0, rfl, hb5.lt, by rw [Nat.zero_add, hc5.at_ hb5 hj]⟩)
    | (go_at_call 113
       refine (setBits_own _ 3 3 _ _ (by omega) hbools).mono ?_
       rintro e w6 ⟨v6, rfl, hl6, hb6⟩))
  go_ret
  exact ⟨_, rfl, hl6.low hB5.size, hB5.trans (hb6.mono hB5.size)⟩

end Go.Proofs.Ytdeilceakhgjlaa
