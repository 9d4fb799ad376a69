/-
  Assigned variables, the program's walk through a block. (Written by gen_pgas.py.)
-/
import Derived.Test.YtcdgbjklfmlhkaaPgAs2
namespace Go.Proofs.Ytcdgbjklfmlhkaa
open Go.RowKit Num

/-- The eight marks: the variables, then the procedures. -/
def abits (σ : Sg) (j : Nat) : Bool := if j < 5 then σ.2 j else σ.1 (j - 5)
/-- The state in memory, the program's. -/
def AStI (_ : Prg) (σ : Sg) (G : Nat) (w : World) : Prop := ∃ cs, Box w G 94 cs ∧ BoolsC cs 8 (abits σ)
theorem AStI.lt {P : Prg} {σ : Sg} {G : Nat} {w : World} (h : AStI P σ G w) : G < w.heap.size := by
  obtain ⟨cs, hb, _⟩ := h
  exact hb.lt
theorem AStI.below {P : Prg} {σ : Sg} {G : Nat} {w w' : World} (h : AStI P σ G w) (hb : Below w.heap.size w w') : AStI P σ G w' := by
  obtain ⟨cs, h1, h2⟩ := h
  exact ⟨cs, h1.below hb h1.lt, h2⟩
theorem AStI.var {P : Prg} {σ : Sg} {G v : Nat} {w : World} (h : AStI P σ G w) (hv : v < 5) : w.cell? ⟨G, v, none⟩ = some (.bool (σ.2 v)) ∧ w.frozen? ⟨G, v, none⟩ = false := by
  obtain ⟨cs, h1, h2⟩ := h
  have := h2.at_ h1 (show v < 8 by omega)
  rw [abits, if_pos hv] at this
  exact ⟨this, h1.free v⟩
theorem AStI.proc {P : Prg} {σ : Sg} {G q : Nat} {w : World} (h : AStI P σ G w) (hq : q < 3) : w.cell? ⟨G, 5 + q, none⟩ = some (.bool (σ.1 q)) ∧ w.frozen? ⟨G, 5 + q, none⟩ = false := by
  obtain ⟨cs, h1, h2⟩ := h
  have := h2.at_ h1 (show 5 + q < 8 by omega)
  rw [abits, if_neg (by omega), Nat.add_sub_cancel_left] at this
  exact ⟨this, h1.free _⟩
theorem AStI.markV {P : Prg} {σ : Sg} {G v : Nat} {w : World} (h : AStI P σ G w) (hv : v < 5) : AStI P (σ.1, setU σ.2 v) G (w.setCell ⟨G, v, none⟩ (.bool true)) := by
  obtain ⟨cs, h1, h2⟩ := h
  refine ⟨_, h1.set _ _, (h2.put (show v < 8 by omega)).congr fun j hj => ?_⟩
  simp only [setU, abits]
  by_cases h5 : j < 5
  · rw [if_pos h5, if_pos h5]
  · have : (j == v) = false := beq_eq_false_iff_ne.2 (by omega)
    rw [if_neg h5, if_neg h5, this, Bool.or_false]
theorem AStI.markP {P : Prg} {σ : Sg} {G q : Nat} {w : World} (h : AStI P σ G w) (hq : q < 3) : AStI P (setU σ.1 q, σ.2) G (w.setCell ⟨G, 5 + q, none⟩ (.bool true)) := by
  obtain ⟨cs, h1, h2⟩ := h
  refine ⟨_, h1.set _ _, (h2.put (show 5 + q < 8 by omega)).congr fun j hj => ?_⟩
  simp only [setU, abits]
  by_cases h5 : j < 5
  · have : (j == 5 + q) = false := beq_eq_false_iff_ne.2 (by omega)
    rw [if_pos h5, if_pos h5, this, Bool.or_false]
  · have : (j == 5 + q) = (j - 5 == q) := by rw [Bool.eq_iff_iff, beq_iff_eq, beq_iff_eq]; omega
    rw [if_neg h5, if_neg h5, this]
theorem holg7 {p0 p1 p2 p3 p4 p5 p6 K : Prop} (h : p0 ∧ p1 ∧ p2 ∧ p3 ∧ p4 ∧ p5 ∧ p6 ∧ K) : K := h.2.2.2.2.2.2.2
theorem holg1 {p0 K : Prop} (h : p0 ∧ K) : K := h.2
/-- What the walk through a block does: the program. -/
def BAI (P : Prg) (d f : Nat) : Prop := ∀ (lo lo1 n : Nat) (b : Nat → Int) (Av Ax As Ap Ab A1 : Option Addr) (cv cx cs cp cb c1 G : Nat) (σ : Sg) (W0 w : World), PgAt lo W0 Av Ax As Ap Ab P → IntsAt lo1 W0 A1 n b → Below W0.heap.size W0 w → W0.heap.size ≤ G → n ≤ 1048576 → (∀ j, j < n → 0 ≤ b j ∧ b j < (P.ns : Int) ∧ (P.ns : Int) ≤ b j + (d : Int)) → unv P.np σ ≤ f → AStI P σ G w →
  Calls Try.prog 71 #[.pointer (some ⟨G, 0, none⟩), .agg #[.slice Av P.nv cv, .slice Ax P.nx cx, .slice As P.ns cs, .slice Ap P.np cp, .slice Ab P.nb cb, .int .i64 P.fuel], .slice A1 n c1] w fun e w' => (∃ v, e = .returned v) ∧ AStI P (foldS (asD P (asC P f) d) b n σ) G w' ∧ KeepG G w w'
/-- What a call does. -/
def PAI (P : Prg) (f : Nat) : Prop := ∀ (lo pq : Nat) (Av Ax As Ap Ab : Option Addr) (cv cx cs cp cb G : Nat) (σ : Sg) (W0 w : World), PgAt lo W0 Av Ax As Ap Ab P → Below W0.heap.size W0 w → W0.heap.size ≤ G → pq < P.np → unv P.np σ ≤ f → AStI P σ G w →
  Calls Try.prog 119 #[.pointer (some ⟨G, 0, none⟩), .agg #[.slice Av P.nv cv, .slice Ax P.nx cx, .slice As P.ns cs, .slice Ap P.np cp, .slice Ab P.nb cb, .int .i64 P.fuel], .int .i64 (pq : Nat)] w fun e w' => (∃ v, e = .returned v) ∧ AStI P (asC P f (pq : Nat) σ) G w' ∧ KeepG G w w'

set_option maxRecDepth 100000 in
set_option maxHeartbeats 12800000 in
theorem basI_of (P : Prg) (hs : P.small) (hnv : P.nv ≤ 5) (hnp : P.np ≤ 3) (hok : ∀ j, j < P.ns → StOk P (P.st j)) (hbl : BlocksOk P) (d f : Nat) (hB : ∀ d', d = d' + 1 → BAI P d' f) (hC : PAI P f) : BAI P d f := by
  intro lo lo1 n b Av Ax As Ap Ab A1 cv cx cs cp cb c1 G σ W0 w hp hi hb0 hGW hn hb hun hst
  have hGl := hst.lt
  have hP := Box.new w 37 #[.slice Av P.nv cv, .slice Ax P.nx cx, .slice As P.ns cs, .slice Ap P.np cp, .slice Ab P.nb cb, .int .i64 P.fuel]
  have hal := (Below.refl w.heap.size w).alloc (Nat.le_refl _) (.cells #[.slice Av P.nv cv, .slice Ax P.nx cx, .slice As P.ns cs, .slice Ap P.np cp, .slice Ab P.nb cb, .int .i64 P.fuel] 37)
  have hk0 := KeepG.of_below hal (Nat.le_of_lt hGl)
  have hst1 := hst.below hal
  have hcb1 := hb0.trans (hal.mono (Nat.le_trans hGW (Nat.le_of_lt hGl)))
  obtain ⟨q0, q1, q2, q3, q4, q5, qf⟩ := hP.six
  have HP := Lib.hid hp
  have HI := Lib.hid hi
  have HBD := Lib.hid hb
  have HGW := Lib.hid hGW
  have HUN := Lib.hid hun
  have HB := Lib.hid hB
  have HC := Lib.hid hC
  have HOK := Lib.hid hok
  have HBL := Lib.hid hbl
  have HSM := Lib.hid hs
  have hPG : w.heap.size ≠ G := by omega
  clear hp hi hb hun hB hC hok hbl hs hst hal
  go_enter Try.func71, Try.ntmps71
  go_wp2_with fail
  clear q0 q1 q2 q3 q4 q5 qf
  obtain ⟨w1, hw1⟩ : ∃ w1, w1 = w.alloc (.cells #[.slice Av P.nv cv, .slice Ax P.nx cx, .slice As P.ns cs, .slice Ap P.np cp, .slice Ab P.nb cb, .int .i64 P.fuel] 37) := ⟨_, rfl⟩
  rw [← hw1] at hP hk0 hst1 hcb1 ⊢
  clear hw1
  go_loopg [11] n (fun q iv wr => ∃ (k : Nat) (σk : Sg), k + q = n ∧ iv = .int .i64 (k : Nat) ∧ Hid (σk = foldS (asD P (asC P f) d) b k σ) ∧ AStI P σk G wr ∧ KeepG G w1 wr)
  case atStart => exact ⟨0, σ, by omega, rfl, Lib.hid rfl, hst1, KeepG.refl _ _⟩
  case round =>
    rename World => w4
    obtain ⟨k, σk, hk, rfl, hσ, hst, hkg⟩ := hrel
    replace hP := hP.only hkg.2 hPG
    have hcb := hcb1.trans (hkg.1.mono HGW.out)
    by_cases hk0' : k < n
    · obtain ⟨hb0, hb1, hb2⟩ := HBD.out k hk0'
      obtain ⟨m, hm⟩ : ∃ m : Nat, b k = (m : Int) := ⟨(b k).toNat, by omega⟩
      obtain ⟨d', rfl⟩ : ∃ d', d = d' + 1 := ⟨d - 1, by omega⟩
      have hmn : m < P.ns := by omega
      have hmi : (m : Int) < (P.ns : Int) := by omega
      obtain ⟨ba, oa, rfl, hba, s0⟩ := (HI.out.below hcb (Nat.le_refl _)).at_ hk0'
      rw [hm] at s0
      obtain ⟨bs, os, A3, c3, A4, c4, A5, c5, rfl, hbs, r0, r1, r2, r3, r4, r5, r6, r7, _, g4, g5⟩ := HP.out.s.at_ hmn
      have t0 := (hcb.cell (p := ⟨bs, os + m * 8, none⟩) hbs).trans r0
      have t1 := (hcb.cell (p := ⟨bs, os + m * 8 + 1, none⟩) hbs).trans r1
      have t2 := (hcb.cell (p := ⟨bs, os + m * 8 + 2, none⟩) hbs).trans r2
      have t3 := (hcb.cell (p := ⟨bs, os + m * 8 + 3, none⟩) hbs).trans r3
      have t4 := (hcb.cell (p := ⟨bs, os + m * 8 + 4, none⟩) hbs).trans r4
      have t5 := (hcb.cell (p := ⟨bs, os + m * 8 + 5, none⟩) hbs).trans r5
      have t6 := (hcb.cell (p := ⟨bs, os + m * 8 + 6, none⟩) hbs).trans r6
      have t7 := (hcb.cell (p := ⟨bs, os + m * 8 + 7, none⟩) hbs).trans r7
      have hV := Box.new w4 110 #[.int .i64 (P.st m).kind, .int .i64 (P.st m).var, .int .i64 (P.st m).ex, .slice A3 (P.st m).nc c3, .slice A4 (P.st m).nt c4, .slice A5 (P.st m).ne c5, .int .i64 (P.st m).times, .int .i64 (P.st m).proc]
      have hal := (Below.refl w4.heap.size w4).alloc (Nat.le_refl _) (.cells #[.int .i64 (P.st m).kind, .int .i64 (P.st m).var, .int .i64 (P.st m).ex, .slice A3 (P.st m).nc c3, .slice A4 (P.st m).nt c4, .slice A5 (P.st m).ne c5, .int .i64 (P.st m).times, .int .i64 (P.st m).proc] 110)
      have hGl4 := hst.lt
      have hVG : w4.heap.size ≠ G := by omega
      obtain ⟨q0, q1, q2, q3, q4, q5, qf⟩ := hP.six
      replace hst := hst.below hal
      replace hP := hP.alloc (.cells #[.int .i64 (P.st m).kind, .int .i64 (P.st m).var, .int .i64 (P.st m).ex, .slice A3 (P.st m).nc c3, .slice A4 (P.st m).nt c4, .slice A5 (P.st m).ne c5, .int .i64 (P.st m).times, .int .i64 (P.st m).proc] 110)
      replace hcb := hcb.trans (hal.mono (by have := hcb.size; omega))
      replace hkg := hkg.trans (KeepG.of_below hal (Nat.le_of_lt hGl4))
      have hun : unv P.np σk ≤ f := Nat.le_trans (by rw [hσ.out]; exact unv_grow (foldS_grow (asD_grow (asC_grow f) _) _ _ _)) HUN.out
      have hS := HOK.out m hmn
      have hr := HBL.out.2.2.1 m hmn
      have CT : Hid (∀ (τ : Sg) W, unv P.np τ ≤ f → Below W0.heap.size W0 W → AStI P τ G W → _) := Lib.hid fun τ W hu hw hs => HB.out d' rfl lo lo (P.st m).nt (P.st m).th Av Ax (some ⟨bs, os, none⟩) Ap Ab A4 cv cx cs cp cb c4 G τ W0 W HP.out g4 hw HGW.out (HSM.out.st m hmn).nt (fun j hj => by have := hr.1 j hj; omega) hu hs
      have CE : Hid (∀ (τ : Sg) W, unv P.np τ ≤ f → Below W0.heap.size W0 W → AStI P τ G W → _) := Lib.hid fun τ W hu hw hs => HB.out d' rfl lo lo (P.st m).ne (P.st m).el Av Ax (some ⟨bs, os, none⟩) Ap Ab A5 cv cx cs cp cb c5 G τ W0 W HP.out g5 hw HGW.out (HSM.out.st m hmn).ne (fun j hj => by have := hr.2 j hj; omega) hu hs
      have HN : Hid (∀ τ, τ = (if (P.st m).kind = 8 then asC P f (P.st m).proc (asg (P.st m) σk) else asg (P.st m) σk) → foldS (asD P (asC P f) d') (P.st m).el (P.st m).ne (foldS (asD P (asC P f) d') (P.st m).th (P.st m).nt τ) = foldS (asD P (asC P f) (d' + 1)) b (k + 1) σ) := Lib.hid fun τ hτ => by
        rw [foldS, ← hσ.out, asD, hm, Int.toNat_natCast, ← hτ]
      obtain ⟨w5, hw5⟩ : ∃ w5, w5 = w4.alloc (.cells #[.int .i64 (P.st m).kind, .int .i64 (P.st m).var, .int .i64 (P.st m).ex, .slice A3 (P.st m).nc c3, .slice A4 (P.st m).nt c4, .slice A5 (P.st m).ne c5, .int .i64 (P.st m).times, .int .i64 (P.st m).proc] 110) := ⟨_, rfl⟩
      rw [← hw5] at hV hst hP hcb hkg
      have hGl5 := hst.lt
      clear hb0 hb1 hb2 hm hba r0 r1 r2 r3 r4 r5 r6 r7 g4 g5 hr hal
      go_upto_region 5 with fail
      rw [← hw5]
      clear hw5 t0 t1 t2 t3 t4 t5 t6 t7 s0 q0 q1 q2 q3 q4 q5 qf
      obtain ⟨q0, q1, q2, q3, q4, q5, qf⟩ := hP.six
      obtain ⟨v0, v1, v2, v3, v4, v5, v6, v7, vf⟩ := hV.eight
      by_cases k23 : (P.st m).kind = 2 ∨ (P.st m).kind = 3
      · have hvr : 0 ≤ (P.st m).var ∧ (P.st m).var ≤ (P.nv : Int) - 1 := by
          rcases k23 with h | h
          · exact ((stOkAssign h).1 hS).1
          · exact ((stOkSample h).1 hS).1
        obtain ⟨vv, hv⟩ : ∃ vv : Nat, (P.st m).var = (vv : Int) := ⟨(P.st m).var.toNat, by omega⟩
        have hvv : vv < 5 := by omega
        have hvi : (vv : Int) < 5 := by omega
        have hvi0 : (0 : Int) ≤ (vv : Int) := by omega
        have HT : Hid ((σk.1, setU σk.2 vv) = (if (P.st m).kind = 8 then asC P f (P.st m).proc (asg (P.st m) σk) else asg (P.st m) σk)) := Lib.hid (by rw [if_neg (by omega), asg, if_pos k23, hv, Int.toNat_natCast])
        have e8 : ((P.st m).kind == 8) = false := beq_eq_false_iff_ne.2 (by omega)
        have e23 : ((P.st m).kind == 2) = true ∨ (((P.st m).kind == 2) = false ∧ ((P.st m).kind == 3) = true) := by
          rcases k23 with h | h
          · exact .inl (by rw [h]; rfl)
          · exact .inr ⟨by rw [h]; rfl, by rw [h]; rfl⟩
        obtain ⟨p0, pf⟩ := hst.var hvv
        have hun : unv P.np (σk.1, setU σk.2 vv) ≤ f := hun
        have HVv := Lib.hid hv
        rw [hv] at v1
        have hv1 := Lib.hid v1
        clear k23 hS hvr hv
        rcases e23 with e2 | ⟨e2, e3⟩
        all_goals
          (go_upto_region 8 with fail
           go_region_held3 (fun w' => w'.cell? ⟨w4.heap.size, 1, none⟩ = some (.int .i64 (vv : Nat)) ∧ KeepG G w5 w')
             ((suffices hK : KeepG G w5 _ from ⟨((hV.only hK.2 hVG).cell 1).trans (by rw [HVv.out]; rfl), hK⟩; first | exact ⟨(Below.refl _ w5).drew, Only.drewN (Only.refl _ _) 1⟩ | exact KeepG.refl _ _ | exact holg1 (by assumption) | (exact KeepG.trans (holg1 (by assumption)) (KeepG.set G _ _ _))))
             (fail)
           have hk6 : KeepG G w5 _ := holg1 (by assumption)
           have hst := (hst.markV hvv).below (Below.refl _ _).drew
           generalize (World.setCell w5 ⟨G, vv, none⟩ (.bool true)).drew = w6 at hk6 hst ⊢
           replace hcb := hcb.trans (hk6.1.mono HGW.out)
           clear p0 pf hv1
           clear q0 q1 q2 q3 q4 q5 qf v0 v1 v2 v3 v4 v5 v6 v7 vf
           replace hP := hP.only hk6.2 hPG
           replace hV := hV.only hk6.2 hVG
           replace hkg := hkg.trans hk6
           obtain ⟨q0, q1, q2, q3, q4, q5, qf⟩ := hP.six
           obtain ⟨v0, v1, v2, v3, v4, v5, v6, v7, vf⟩ := hV.eight
           go_wp2_with (first
            | (go_at_call 71
               with_reducible refine (CT.out _ _ hun hcb hst).mono ?_
               rintro e w8 ⟨⟨vr8, rfl⟩, hst8, hk8⟩
               have hun8 : unv P.np (foldS (asD P (asC P f) d') (P.st m).th (P.st m).nt _) ≤ f := Nat.le_trans (unv_grow (foldS_grow (asD_grow (asC_grow f) _) _ _ _)) hun
               have hcb8 := hcb.trans (hk8.1.mono HGW.out)
               clear q0 q1 q2 q3 q4 q5 qf v0 v1 v2 v3 v4 v5 v6 v7 vf
               replace hP := hP.only hk8.2 hPG
               replace hV := hV.only hk8.2 hVG
               replace hkg := hkg.trans hk8
               obtain ⟨q0, q1, q2, q3, q4, q5, qf⟩ := hP.six
               obtain ⟨v0, v1, v2, v3, v4, v5, v6, v7, vf⟩ := hV.eight
               )
            | (go_at_call 71
               with_reducible refine (CE.out _ _ hun8 hcb8 hst8).mono ?_
               rintro e w9 ⟨⟨vr9, rfl⟩, hst9, hk9⟩
               replace hkg := hkg.trans hk9))
           go_roundg (gk - 1)
           case rel => exact ⟨k + 1, _, by omega, by go_num, Lib.hid (HN.out _ HT.out), hst9, hkg⟩
           case measure => omega)
      have e2 : ((P.st m).kind == 2) = false := beq_eq_false_iff_ne.2 (fun h => k23 (.inl h))
      have e3 : ((P.st m).kind == 3) = false := beq_eq_false_iff_ne.2 (fun h => k23 (.inr h))
      have hasg : asg (P.st m) σk = σk := if_neg k23
      rw [hasg] at HN
      clear hasg
      by_cases k8 : (P.st m).kind = 8
      · have e8 : ((P.st m).kind == 8) = true := by rw [k8]; rfl
        have hpp := ((stOkCall k8).1 hS).1
        obtain ⟨pq, hq⟩ : ∃ pq : Nat, (P.st m).proc = (pq : Int) := ⟨(P.st m).proc.toNat, by omega⟩
        have hqn : pq < P.np := by omega
        rw [hq] at v7
        have HT : Hid (asC P f (pq : Nat) σk = (if (P.st m).kind = 8 then asC P f (P.st m).proc σk else σk)) := Lib.hid (by rw [if_pos k8, hq])
        have CQ := Lib.hid (HC.out lo pq Av Ax (some ⟨bs, os, none⟩) Ap Ab cv cx cs cp cb G σk W0 w5 HP.out hcb HGW.out hqn hun hst)
        clear k8 hS hpp k23 hq
        go_wp2_with (first
         | (go_at_call 119
            refine CQ.out.mono ?_
            rintro e w6 ⟨⟨vr6, rfl⟩, hst6, hk6⟩
            have hun6 : unv P.np (asC P f (pq : Nat) σk) ≤ f := Nat.le_trans (unv_grow (asC_grow f _ _)) hun
            replace hcb := hcb.trans (hk6.1.mono HGW.out)
            replace hst := hst6
            replace hun := hun6
            clear q0 q1 q2 q3 q4 q5 qf v0 v1 v2 v3 v4 v5 v6 v7 vf
            replace hP := hP.only hk6.2 hPG
            replace hV := hV.only hk6.2 hVG
            replace hkg := hkg.trans hk6
            obtain ⟨q0, q1, q2, q3, q4, q5, qf⟩ := hP.six
            obtain ⟨v0, v1, v2, v3, v4, v5, v6, v7, vf⟩ := hV.eight)
         | (go_at_call 71
            with_reducible refine (CT.out _ _ hun hcb hst).mono ?_
            rintro e w8 ⟨⟨vr8, rfl⟩, hst8, hk8⟩
            have hun8 : unv P.np (foldS (asD P (asC P f) d') (P.st m).th (P.st m).nt _) ≤ f := Nat.le_trans (unv_grow (foldS_grow (asD_grow (asC_grow f) _) _ _ _)) hun
            have hcb8 := hcb.trans (hk8.1.mono HGW.out)
            clear q0 q1 q2 q3 q4 q5 qf v0 v1 v2 v3 v4 v5 v6 v7 vf
            replace hP := hP.only hk8.2 hPG
            replace hV := hV.only hk8.2 hVG
            replace hkg := hkg.trans hk8
            obtain ⟨q0, q1, q2, q3, q4, q5, qf⟩ := hP.six
            obtain ⟨v0, v1, v2, v3, v4, v5, v6, v7, vf⟩ := hV.eight
            )
         | (go_at_call 71
            with_reducible refine (CE.out _ _ hun8 hcb8 hst8).mono ?_
            rintro e w9 ⟨⟨vr9, rfl⟩, hst9, hk9⟩
            replace hkg := hkg.trans hk9))
        go_roundg (gk - 1)
        case rel => exact ⟨k + 1, _, by omega, by go_num, Lib.hid (HN.out _ HT.out), hst9, hkg⟩
        case measure => omega
      · have e8 : ((P.st m).kind == 8) = false := beq_eq_false_iff_ne.2 k8
        have HT : Hid (σk = (if (P.st m).kind = 8 then asC P f (P.st m).proc σk else σk)) := Lib.hid (by rw [if_neg k8])
        clear k8 hS k23
        go_wp2_with (first
         | (go_at_call 71
            with_reducible refine (CT.out _ _ hun hcb hst).mono ?_
            rintro e w8 ⟨⟨vr8, rfl⟩, hst8, hk8⟩
            have hun8 : unv P.np (foldS (asD P (asC P f) d') (P.st m).th (P.st m).nt _) ≤ f := Nat.le_trans (unv_grow (foldS_grow (asD_grow (asC_grow f) _) _ _ _)) hun
            have hcb8 := hcb.trans (hk8.1.mono HGW.out)
            clear q0 q1 q2 q3 q4 q5 qf v0 v1 v2 v3 v4 v5 v6 v7 vf
            replace hP := hP.only hk8.2 hPG
            replace hV := hV.only hk8.2 hVG
            replace hkg := hkg.trans hk8
            obtain ⟨q0, q1, q2, q3, q4, q5, qf⟩ := hP.six
            obtain ⟨v0, v1, v2, v3, v4, v5, v6, v7, vf⟩ := hV.eight
            )
         | (go_at_call 71
            with_reducible refine (CE.out _ _ hun8 hcb8 hst8).mono ?_
            rintro e w9 ⟨⟨vr9, rfl⟩, hst9, hk9⟩
            replace hkg := hkg.trans hk9))
        go_roundg (gk - 1)
        case rel => exact ⟨k + 1, _, by omega, by go_num, Lib.hid (HN.out _ HT.out), hst9, hkg⟩
        case measure => omega
    · obtain rfl : k = n := by omega
      go_wp2_with fail
      go_end0
      exact ⟨⟨_, rfl⟩, by rw [← hσ.out]; exact hst, hk0.trans hkg⟩

set_option maxRecDepth 100000 in
set_option maxHeartbeats 6400000 in
theorem paI_of (P : Prg) (hs : P.small) (hnp : P.np ≤ 3) (hbl : BlocksOk P) (f : Nat) (hB : ∀ g, f = g + 1 → BAI P P.ns g) : PAI P f := by
  intro lo pq Av Ax As Ap Ab cv cx cs cp cb G σ W0 w hp hb0 hGW hqn hun hst
  have hGl := hst.lt
  have hP := Box.new w 37 #[.slice Av P.nv cv, .slice Ax P.nx cx, .slice As P.ns cs, .slice Ap P.np cp, .slice Ab P.nb cb, .int .i64 P.fuel]
  have hal := (Below.refl w.heap.size w).alloc (Nat.le_refl _) (.cells #[.slice Av P.nv cv, .slice Ax P.nx cx, .slice As P.ns cs, .slice Ap P.np cp, .slice Ab P.nb cb, .int .i64 P.fuel] 37)
  have hk0 := KeepG.of_below hal (Nat.le_of_lt hGl)
  have hst1 := hst.below hal
  have hcb1 := hb0.trans (hal.mono (Nat.le_trans hGW (Nat.le_of_lt hGl)))
  have hPG : w.heap.size ≠ G := by omega
  have hqi : (pq : Int) < 3 := by omega
  have hqp : (pq : Int) < (P.np : Int) := by omega
  obtain ⟨w1, hw1⟩ : ∃ w1, w1 = w.alloc (.cells #[.slice Av P.nv cv, .slice Ax P.nx cx, .slice As P.ns cs, .slice Ap P.np cp, .slice Ab P.nb cb, .int .i64 P.fuel] 37) := ⟨_, rfl⟩
  rw [← hw1] at hP hk0 hst1 hcb1
  obtain ⟨p0, pf⟩ := hst1.proc (show pq < 3 by omega)
  obtain ⟨q0, q1, q2, q3, q4, q5, qf⟩ := hP.six
  clear hal hst
  cases hvis : σ.1 pq with
  | true =>
    have hv : asC P f (pq : Nat) σ = σ := asC_vis (by rw [Int.toNat_natCast]; exact hvis)
    rw [hv]
    rw [hvis] at p0
    clear hv hvis hb0 hun
    go_enter Try.func119, Try.ntmps119
    go_upto_region 1 with fail
    rw [← hw1]
    clear hw1
    go_wp2_with fail
    go_end0
    exact ⟨⟨_, rfl⟩, hst1, hk0⟩
  | false =>
    obtain ⟨g, hg⟩ : ∃ g, f = g + 1 := ⟨f - 1, by
      rcases Nat.eq_zero_or_pos f with h | h
      · rw [h] at hun
        have := unv_zero hun hqn
        rw [hvis] at this
        cases this
      · omega⟩
    have hv : asC P f (pq : Nat) σ = foldS (asD P (asC P g) P.ns) (P.pb pq) (P.pl pq) (setU σ.1 pq, σ.2) := by rw [hg, asC_new (by rw [Int.toNat_natCast]; exact hvis), Int.toNat_natCast]
    rw [hv]
    rw [hvis] at p0
    have hung : unv P.np (setU σ.1 pq, σ.2) ≤ g := by have := unv_set hqn hvis σ.2; omega
    obtain ⟨bp, op, A8, c8, rfl, hbp, z0, z1, g1⟩ := hp.p.at_ hqn
    have HGW := Lib.hid hGW
    have CP : Hid (∀ W, Below W0.heap.size W0 W → AStI P (setU σ.1 pq, σ.2) G W → _) := Lib.hid fun W hw hx => hB g hg lo lo (P.pl pq) (P.pb pq) Av Ax As (some ⟨bp, op, none⟩) Ab A8 cv cx cs cp cb c8 G (setU σ.1 pq, σ.2) W0 W hp g1 hw hGW (hs.pl pq hqn) (fun j hj => by have := hbl.2.1 pq hqn j hj; omega) hung hx
    have hst6 := hst1.markP (show pq < 3 by omega)
    have hk6 := KeepG.set G w1 (5 + pq) (.bool true)
    have hcb6 := hcb1.trans (hk6.1.mono hGW)
    have hP6 := hP.only hk6.2 hPG
    obtain ⟨w6, hw6⟩ : ∃ w6, w6 = w1.setCell ⟨G, 5 + pq, none⟩ (.bool true) := ⟨_, rfl⟩
    rw [← hw6] at hst6 hk6 hcb6 hP6
    have y1 := (hcb6.cell (p := ⟨bp, op + pq * 2 + 1, none⟩) hbp).trans z1
    have HBP := Lib.hid (Nat.lt_of_lt_of_le hbp hGW)
    clear hv hvis hb0 hun hp z0 z1 g1 hg hung hB hbl
    go_enter Try.func119, Try.ntmps119
    go_upto_region 1 with fail
    rw [← hw1]
    clear hw1
    go_upto_region 3 with fail
    rw [← hw6]
    clear hw6 q0 q1 q2 q3 q4 q5 qf p0 pf hst1 hP hcb1
    obtain ⟨q0, q1, q2, q3, q4, q5, qf⟩ := hP6.six
    go_region_held3 (fun w' => w'.cell? ⟨w.heap.size, 0, none⟩ = some (.slice Av P.nv cv) ∧ w'.cell? ⟨w.heap.size, 1, none⟩ = some (.slice Ax P.nx cx) ∧ w'.cell? ⟨w.heap.size, 2, none⟩ = some (.slice As P.ns cs) ∧ w'.cell? ⟨w.heap.size, 3, none⟩ = some (.slice (some ⟨bp, op, none⟩) P.np cp) ∧ w'.cell? ⟨w.heap.size, 4, none⟩ = some (.slice Ab P.nb cb) ∧ w'.cell? ⟨w.heap.size, 5, none⟩ = some (.int .i64 P.fuel) ∧ w'.cell? ⟨bp, op + pq * 2 + 1, none⟩ = some (.slice A8 (P.pl pq) c8) ∧ KeepG G w6 w')
      ((suffices hK : KeepG G w6 _ from ⟨((hP6.only hK.2 hPG).cell 0), ((hP6.only hK.2 hPG).cell 1), ((hP6.only hK.2 hPG).cell 2), ((hP6.only hK.2 hPG).cell 3), ((hP6.only hK.2 hPG).cell 4), ((hP6.only hK.2 hPG).cell 5), (hK.1.cell (p := ⟨bp, op + pq * 2 + 1, none⟩) HBP.out).trans y1, hK⟩; first | exact ⟨(Below.refl _ w6).drew, Only.drewN (Only.refl _ _) 1⟩ | exact KeepG.refl _ _ | exact holg7 (by assumption) | (refine KeepG.trans (holg7 (by assumption)) ?_; assumption)))
      (first
        | (go_at_call 71; refine (CP.out _ (hcb6.trans ((show KeepG G w6 _ from holg7 (by assumption)).1.mono HGW.out)) (hst6.below (Below.refl _ w6).drew)).mono ?_; rintro e w7 ⟨⟨vr7, rfl⟩, hst7, hk7⟩))
    have hk8 : KeepG G w6 w7 := holg7 (by assumption)
    go_wp2_with fail
    go_end0
    exact ⟨⟨_, rfl⟩, hst7, hk0.trans (hk6.trans hk8)⟩

end Go.Proofs.Ytcdgbjklfmlhkaa
