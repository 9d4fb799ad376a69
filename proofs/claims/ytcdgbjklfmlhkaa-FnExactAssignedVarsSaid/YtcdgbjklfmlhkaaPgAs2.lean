/-
  Assigned variables, the model's walk through a block. (Written by gen_pgas.py.)
-/
import Derived.Test.YtcdgbjklfmlhkaaPgAs1
import Derived.Deep.RegionHeld3
namespace Go.Proofs.Ytcdgbjklfmlhkaa
open Go.RowKit Num

/-- Only block G and newer ones have changed. -/
def KeepG (G : Nat) (w w' : World) : Prop := Below G w w' ∧ Only G w w'
theorem KeepG.refl (G : Nat) (w : World) : KeepG G w w := ⟨Below.refl _ _, Only.refl _ _⟩
theorem KeepG.trans {G : Nat} {a b c : World} (h : KeepG G a b) (k : KeepG G b c) : KeepG G a c := ⟨h.1.trans k.1, h.2.trans k.2⟩
theorem KeepG.of_below {G : Nat} {w w' : World} (hb : Below w.heap.size w w') (hG : G ≤ w.heap.size) : KeepG G w w' := ⟨hb.mono hG, Only.below hb (Nat.le_refl _)⟩
theorem KeepG.set (G : Nat) (w : World) (i : Nat) (v : Value) : KeepG G w (w.setCell ⟨G, i, none⟩ v) := ⟨(Below.refl G w).setCell (p := ⟨G, i, none⟩) (Nat.le_refl _) v, Only.set G w i v⟩

/-- The state in memory, the model's: the marks of the procedures, and the list of the variables. -/
def AStS (P : Prg) (σ : Sg) (G : Nat) (xv : Value) (w : World) : Prop := ∃ cs, Box w G 4 cs ∧ BoolsC cs P.np σ.1 ∧ OutAt (G + 1) w xv (ups σ.2 5)
theorem AStS.lt {P : Prg} {σ : Sg} {G : Nat} {xv : Value} {w : World} (h : AStS P σ G xv w) : G < w.heap.size := by
  obtain ⟨cs, hb, _⟩ := h
  exact hb.lt
theorem AStS.below {P : Prg} {σ : Sg} {G : Nat} {xv : Value} {w w' : World} (h : AStS P σ G xv w) (hb : Below w.heap.size w w') : AStS P σ G xv w' := by
  obtain ⟨cs, h1, h2, h3⟩ := h
  exact ⟨cs, h1.below hb h1.lt, h2, h3.below hb (Nat.le_refl _)⟩
/-- What the walk through a block does: the model. -/
def BAS (P : Prg) (d f : Nat) : Prop := ∀ (lo lo1 n : Nat) (b : Nat → Int) (Av Ax As Ap Ab A1 : Option Addr) (cv cx cs cp cb c1 G : Nat) (σ : Sg) (xv : Value) (W0 w : World), PgAt lo W0 Av Ax As Ap Ab P → IntsAt lo1 W0 A1 n b → Below W0.heap.size W0 w → W0.heap.size ≤ G → n ≤ 1048576 → (∀ j, j < n → 0 ≤ b j ∧ b j < (P.ns : Int) ∧ (P.ns : Int) ≤ b j + (d : Int)) → unv P.np σ ≤ f → AStS P σ G xv w →
  Calls Try.prog 69 #[.agg #[.slice Av P.nv cv, .slice Ax P.nx cx, .slice As P.ns cs, .slice Ap P.np cp, .slice Ab P.nb cb, .int .i64 P.fuel], .slice A1 n c1, .slice (some ⟨G, 0, none⟩) P.np P.np, xv] w fun e w' => ∃ xv', e = .returned xv' ∧ AStS P (foldS (asD P (asC P f) d) b n σ) G xv' w' ∧ KeepG G w w'

theorem ints_out {lo G : Nat} {w : World} {A : Option Addr} {n : Nat} {f : Nat → Int} (h : IntsAt lo w A n f) (hl : G < lo) (hG : G < w.heap.size) (i : Nat) (v : Value) : IntsAt lo (w.setCell ⟨G, i, none⟩ v) A n f := h.keep (Keeps.set w (by omega) i v)
theorem OutAt.other {lo G : Nat} {w : World} {xv : Value} {xs : List Int} (h : OutAt lo w xv xs) (hl : G < lo) (hG : G < w.heap.size) (i : Nat) (v : Value) : OutAt lo (w.setCell ⟨G, i, none⟩ v) xv xs := by
  rcases h with h | ⟨h0, b, off, c, rfl, h1, h2⟩
  · exact .inl h
  · exact .inr ⟨h0, b, off, c, rfl, h1, ints_out h2 hl hG i v⟩
theorem AStS.mark {P : Prg} {σ : Sg} {G q : Nat} {xv : Value} {w : World} (h : AStS P σ G xv w) (hq : q < P.np) : AStS P (setU σ.1 q, σ.2) G xv (w.setCell ⟨G, q, none⟩ (.bool true)) := by
  obtain ⟨cs, h1, h2, h3⟩ := h
  exact ⟨_, h1.set _ _, h2.put hq, h3.other (Nat.lt_succ_self _) h1.lt _ _⟩
theorem AStS.proc {P : Prg} {σ : Sg} {G q : Nat} {xv : Value} {w : World} (h : AStS P σ G xv w) (hq : q < P.np) : w.cell? ⟨G, q, none⟩ = some (.bool (σ.1 q)) ∧ w.frozen? ⟨G, q, none⟩ = false := by
  obtain ⟨cs, h1, h2, h3⟩ := h
  exact ⟨h2.at_ h1 hq, h1.free q⟩
theorem holg8 {p0 p1 p2 p3 p4 p5 p6 p7 K : Prop} (h : p0 ∧ p1 ∧ p2 ∧ p3 ∧ p4 ∧ p5 ∧ p6 ∧ p7 ∧ K) : K := h.2.2.2.2.2.2.2.2

theorem asC_vis {P : Prg} {f : Nat} {q : Int} {σ : Sg} (h : σ.1 q.toNat = true) : asC P f q σ = σ := by
  cases f with
  | zero => rfl
  | succ f => exact if_pos h
theorem asC_new {P : Prg} {f : Nat} {q : Int} {σ : Sg} (h : σ.1 q.toNat = false) : asC P (f + 1) q σ = foldS (asD P (asC P f) P.ns) (P.pb q.toNat) (P.pl q.toNat) (setU σ.1 q.toNat, σ.2) := by
  show (if σ.1 q.toNat = true then σ else _) = _
  rw [if_neg (by rw [h]; decide)]

set_option maxRecDepth 100000 in
set_option maxHeartbeats 12800000 in
theorem basS_of (P : Prg) (hs : P.small) (hnv : P.nv ≤ 5) (hnp : P.np ≤ 3) (hok : ∀ j, j < P.ns → StOk P (P.st j)) (hbl : BlocksOk P) (d f : Nat) (hB : ∀ d', d = d' + 1 → BAS P d' f) (hC : ∀ g, f = g + 1 → BAS P P.ns g) : BAS P d f := by
  intro lo lo1 n b Av Ax As Ap Ab A1 cv cx cs cp cb c1 G σ xv W0 w hp hi hb0 hGW hn hb hun hst
  have hGl := hst.lt
  have hP := Box.new w 37 #[.slice Av P.nv cv, .slice Ax P.nx cx, .slice As P.ns cs, .slice Ap P.np cp, .slice Ab P.nb cb, .int .i64 P.fuel]
  have hal := (Below.refl w.heap.size w).alloc (Nat.le_refl _) (.cells #[.slice Av P.nv cv, .slice Ax P.nx cx, .slice As P.ns cs, .slice Ap P.np cp, .slice Ab P.nb cb, .int .i64 P.fuel] 37)
  have hk0 := KeepG.of_below hal (Nat.le_of_lt hGl)
  have hst1 := hst.below hal
  have hcb1 := hb0.trans (hal.mono (Nat.le_trans hGW (Nat.le_of_lt hGl)))
  obtain ⟨q0, q1, q2, q3, q4, q5, qf⟩ := hP.six
  have HP := Lib.hid hp
  have HI := Lib.hid hi
  have HBD := Lib.hid hb
  have HGW := Lib.hid hGW
  have HUN := Lib.hid hun
  have HB := Lib.hid hB
  have HC := Lib.hid hC
  have HOK := Lib.hid hok
  have HBL := Lib.hid hbl
  have HSM := Lib.hid hs
  have hPG : w.heap.size ≠ G := by omega
  clear hp hi hb hun hB hC hok hbl hs hst hal
  go_enter Try.func69, Try.ntmps69
  go_wp2_with fail
  clear q0 q1 q2 q3 q4 q5 qf
  obtain ⟨w1, hw1⟩ : ∃ w1, w1 = w.alloc (.cells #[.slice Av P.nv cv, .slice Ax P.nx cx, .slice As P.ns cs, .slice Ap P.np cp, .slice Ab P.nb cb, .int .i64 P.fuel] 37) := ⟨_, rfl⟩
  rw [← hw1] at hP hk0 hst1 hcb1 ⊢
  clear hw1
  go_loopg [3, 14] n (fun q sv iv wr => ∃ (k : Nat) (σk : Sg), k + q = n ∧ iv = .int .i64 (k : Nat) ∧ Hid (σk = foldS (asD P (asC P f) d) b k σ) ∧ AStS P σk G sv wr ∧ KeepG G w1 wr)
  case atStart => exact ⟨0, σ, by omega, rfl, Lib.hid rfl, hst1, KeepG.refl _ _⟩
  case round =>
    rename World => w4
    obtain ⟨k, σk, hk, rfl, hσ, hst, hkg⟩ := hrel
    replace hP := hP.only hkg.2 hPG
    have hcb := hcb1.trans (hkg.1.mono HGW.out)
    by_cases hk0' : k < n
    · obtain ⟨hb0, hb1, hb2⟩ := HBD.out k hk0'
      obtain ⟨m, hm⟩ : ∃ m : Nat, b k = (m : Int) := ⟨(b k).toNat, by omega⟩
      obtain ⟨d', rfl⟩ : ∃ d', d = d' + 1 := ⟨d - 1, by omega⟩
      have hmn : m < P.ns := by omega
      have hmi : (m : Int) < (P.ns : Int) := by omega
      obtain ⟨ba, oa, rfl, hba, s0⟩ := (HI.out.below hcb (Nat.le_refl _)).at_ hk0'
      rw [hm] at s0
      obtain ⟨bs, os, A3, c3, A4, c4, A5, c5, rfl, hbs, r0, r1, r2, r3, r4, r5, r6, r7, _, g4, g5⟩ := HP.out.s.at_ hmn
      have t0 := (hcb.cell (p := ⟨bs, os + m * 8, none⟩) hbs).trans r0
      have t1 := (hcb.cell (p := ⟨bs, os + m * 8 + 1, none⟩) hbs).trans r1
      have t2 := (hcb.cell (p := ⟨bs, os + m * 8 + 2, none⟩) hbs).trans r2
      have t3 := (hcb.cell (p := ⟨bs, os + m * 8 + 3, none⟩) hbs).trans r3
      have t4 := (hcb.cell (p := ⟨bs, os + m * 8 + 4, none⟩) hbs).trans r4
      have t5 := (hcb.cell (p := ⟨bs, os + m * 8 + 5, none⟩) hbs).trans r5
      have t6 := (hcb.cell (p := ⟨bs, os + m * 8 + 6, none⟩) hbs).trans r6
      have t7 := (hcb.cell (p := ⟨bs, os + m * 8 + 7, none⟩) hbs).trans r7
      have hV := Box.new w4 110 #[.int .i64 (P.st m).kind, .int .i64 (P.st m).var, .int .i64 (P.st m).ex, .slice A3 (P.st m).nc c3, .slice A4 (P.st m).nt c4, .slice A5 (P.st m).ne c5, .int .i64 (P.st m).times, .int .i64 (P.st m).proc]
      have hal := (Below.refl w4.heap.size w4).alloc (Nat.le_refl _) (.cells #[.int .i64 (P.st m).kind, .int .i64 (P.st m).var, .int .i64 (P.st m).ex, .slice A3 (P.st m).nc c3, .slice A4 (P.st m).nt c4, .slice A5 (P.st m).ne c5, .int .i64 (P.st m).times, .int .i64 (P.st m).proc] 110)
      have hGl4 := hst.lt
      have hVG : w4.heap.size ≠ G := by omega
      obtain ⟨q0, q1, q2, q3, q4, q5, qf⟩ := hP.six
      replace hst := hst.below hal
      replace hP := hP.alloc (.cells #[.int .i64 (P.st m).kind, .int .i64 (P.st m).var, .int .i64 (P.st m).ex, .slice A3 (P.st m).nc c3, .slice A4 (P.st m).nt c4, .slice A5 (P.st m).ne c5, .int .i64 (P.st m).times, .int .i64 (P.st m).proc] 110)
      replace hcb := hcb.trans (hal.mono (by have := hcb.size; omega))
      replace hkg := hkg.trans (KeepG.of_below hal (Nat.le_of_lt hGl4))
      have hun : unv P.np σk ≤ f := Nat.le_trans (by rw [hσ.out]; exact unv_grow (foldS_grow (asD_grow (asC_grow f) _) _ _ _)) HUN.out
      have hS := HOK.out m hmn
      have hr := HBL.out.2.2.1 m hmn
      have CT : Hid (∀ (τ : Sg) (x : Value) W, unv P.np τ ≤ f → Below W0.heap.size W0 W → AStS P τ G x W → _) := Lib.hid fun τ x W hu hw hs => HB.out d' rfl lo lo (P.st m).nt (P.st m).th Av Ax (some ⟨bs, os, none⟩) Ap Ab A4 cv cx cs cp cb c4 G τ x W0 W HP.out g4 hw HGW.out (HSM.out.st m hmn).nt (fun j hj => by have := hr.1 j hj; omega) hu hs
      have CE : Hid (∀ (τ : Sg) (x : Value) W, unv P.np τ ≤ f → Below W0.heap.size W0 W → AStS P τ G x W → _) := Lib.hid fun τ x W hu hw hs => HB.out d' rfl lo lo (P.st m).ne (P.st m).el Av Ax (some ⟨bs, os, none⟩) Ap Ab A5 cv cx cs cp cb c5 G τ x W0 W HP.out g5 hw HGW.out (HSM.out.st m hmn).ne (fun j hj => by have := hr.2 j hj; omega) hu hs
      have HN : Hid (∀ τ, τ = (if (P.st m).kind = 8 then asC P f (P.st m).proc (asg (P.st m) σk) else asg (P.st m) σk) → foldS (asD P (asC P f) d') (P.st m).el (P.st m).ne (foldS (asD P (asC P f) d') (P.st m).th (P.st m).nt τ) = foldS (asD P (asC P f) (d' + 1)) b (k + 1) σ) := Lib.hid fun τ hτ => by
        rw [foldS, ← hσ.out, asD, hm, Int.toNat_natCast, ← hτ]
      obtain ⟨w5, hw5⟩ : ∃ w5, w5 = w4.alloc (.cells #[.int .i64 (P.st m).kind, .int .i64 (P.st m).var, .int .i64 (P.st m).ex, .slice A3 (P.st m).nc c3, .slice A4 (P.st m).nt c4, .slice A5 (P.st m).ne c5, .int .i64 (P.st m).times, .int .i64 (P.st m).proc] 110) := ⟨_, rfl⟩
      rw [← hw5] at hV hst hP hcb hkg
      have hGl5 := hst.lt
      clear hb0 hb1 hb2 hm hba r0 r1 r2 r3 r4 r5 r6 r7 g4 g5 hr hal
      go_upto_region 5 with fail
      rw [← hw5]
      clear hw5 t0 t1 t2 t3 t4 t5 t6 t7 s0 q0 q1 q2 q3 q4 q5 qf
      obtain ⟨q0, q1, q2, q3, q4, q5, qf⟩ := hP.six
      obtain ⟨v0, v1, v2, v3, v4, v5, v6, v7, vf⟩ := hV.eight
      by_cases k23 : (P.st m).kind = 2 ∨ (P.st m).kind = 3
      · have hvr : 0 ≤ (P.st m).var ∧ (P.st m).var ≤ (P.nv : Int) - 1 := by
          rcases k23 with h | h
          · exact ((stOkAssign h).1 hS).1
          · exact ((stOkSample h).1 hS).1
        obtain ⟨vv, hv⟩ : ∃ vv : Nat, (P.st m).var = (vv : Int) := ⟨(P.st m).var.toNat, by omega⟩
        have hvv : vv < 5 := by omega
        have HT : Hid ((σk.1, setU σk.2 vv) = (if (P.st m).kind = 8 then asC P f (P.st m).proc (asg (P.st m) σk) else asg (P.st m) σk)) := Lib.hid (by rw [if_neg (by omega), asg, if_pos k23, hv, Int.toNat_natCast])
        have e8 : ((P.st m).kind == 8) = false := beq_eq_false_iff_ne.2 (by omega)
        have e23 : ((P.st m).kind == 2) = true ∨ (((P.st m).kind == 2) = false ∧ ((P.st m).kind == 3) = true) := by
          rcases k23 with h | h
          · exact .inl (by rw [h]; rfl)
          · exact .inr ⟨by rw [h]; rfl, by rw [h]; rfl⟩
        rw [hv] at v1
        obtain ⟨cs5, hbx, hbc, hou⟩ := hst
        have hun : unv P.np (σk.1, setU σk.2 vv) ≤ f := hun
        clear k23 hS hvr hv
        rcases e23 with e2 | ⟨e2, e3⟩
        all_goals go_wp2_with (first
         | (go_at_call 115
            refine (put_any (G + 1) σk.2 5 vv _ _ hvv (by omega) (by omega) hou).mono ?_
            rintro e w6 ⟨xv6, rfl, ho6, hb6⟩
            have hk6 := KeepG.of_below hb6 (Nat.le_of_lt hGl5)
            have hst : AStS P (σk.1, setU σk.2 vv) G xv6 w6 := ⟨cs5, hbx.below hb6 hbx.lt, hbc, ho6⟩
            replace hcb := hcb.trans (hk6.1.mono HGW.out)
            clear q0 q1 q2 q3 q4 q5 qf v0 v1 v2 v3 v4 v5 v6 v7 vf
            replace hP := hP.only hk6.2 hPG
            replace hV := hV.only hk6.2 hVG
            replace hkg := hkg.trans hk6
            obtain ⟨q0, q1, q2, q3, q4, q5, qf⟩ := hP.six
            obtain ⟨v0, v1, v2, v3, v4, v5, v6, v7, vf⟩ := hV.eight)
         | (go_at_call 69
            with_reducible refine (CT.out _ _ _ hun hcb hst).mono ?_
            rintro e w8 ⟨xv8, rfl, hst8, hk8⟩
            have hun8 : unv P.np (foldS (asD P (asC P f) d') (P.st m).th (P.st m).nt _) ≤ f := Nat.le_trans (unv_grow (foldS_grow (asD_grow (asC_grow f) _) _ _ _)) hun
            have hcb8 := hcb.trans (hk8.1.mono HGW.out)
            clear q0 q1 q2 q3 q4 q5 qf v0 v1 v2 v3 v4 v5 v6 v7 vf
            replace hP := hP.only hk8.2 hPG
            replace hV := hV.only hk8.2 hVG
            replace hkg := hkg.trans hk8
            obtain ⟨q0, q1, q2, q3, q4, q5, qf⟩ := hP.six
            obtain ⟨v0, v1, v2, v3, v4, v5, v6, v7, vf⟩ := hV.eight
            )
         | (go_at_call 69
            with_reducible refine (CE.out _ _ _ hun8 hcb8 hst8).mono ?_
            rintro e w9 ⟨xv9, rfl, hst9, hk9⟩
            replace hkg := hkg.trans hk9))
        all_goals
          (go_roundg (gk - 1)
           case rel => exact ⟨k + 1, _, by omega, by go_num, Lib.hid (HN.out _ HT.out), hst9, hkg⟩
           case measure => omega)
      have e2 : ((P.st m).kind == 2) = false := beq_eq_false_iff_ne.2 (fun h => k23 (.inl h))
      have e3 : ((P.st m).kind == 3) = false := beq_eq_false_iff_ne.2 (fun h => k23 (.inr h))
      have hasg : asg (P.st m) σk = σk := if_neg k23
      rw [hasg] at HN
      clear hasg
      by_cases k8 : (P.st m).kind = 8
      · have e8 : ((P.st m).kind == 8) = true := by rw [k8]; rfl
        have hpp := ((stOkCall k8).1 hS).1
        obtain ⟨pq, hq⟩ : ∃ pq : Nat, (P.st m).proc = (pq : Int) := ⟨(P.st m).proc.toNat, by omega⟩
        have hqn : pq < P.np := by omega
        have hqi : (pq : Int) < (P.np : Int) := by omega
        rw [hq] at v7
        obtain ⟨p0, pf⟩ := hst.proc hqn
        cases hvis : σk.1 pq with
        | true =>
          have HT : Hid (σk = (if (P.st m).kind = 8 then asC P f (P.st m).proc σk else σk)) := Lib.hid (by rw [if_pos k8, asC_vis (by rw [hq, Int.toNat_natCast]; exact hvis)])
          rw [hvis] at p0
          clear k8 hS hpp hq k23 hvis
          go_wp2_with (first
           | (go_at_call 69
              with_reducible refine (CT.out _ _ _ hun hcb hst).mono ?_
              rintro e w8 ⟨xv8, rfl, hst8, hk8⟩
              have hun8 : unv P.np (foldS (asD P (asC P f) d') (P.st m).th (P.st m).nt _) ≤ f := Nat.le_trans (unv_grow (foldS_grow (asD_grow (asC_grow f) _) _ _ _)) hun
              have hcb8 := hcb.trans (hk8.1.mono HGW.out)
              clear q0 q1 q2 q3 q4 q5 qf v0 v1 v2 v3 v4 v5 v6 v7 vf
              replace hP := hP.only hk8.2 hPG
              replace hV := hV.only hk8.2 hVG
              replace hkg := hkg.trans hk8
              obtain ⟨q0, q1, q2, q3, q4, q5, qf⟩ := hP.six
              obtain ⟨v0, v1, v2, v3, v4, v5, v6, v7, vf⟩ := hV.eight
              )
           | (go_at_call 69
              with_reducible refine (CE.out _ _ _ hun8 hcb8 hst8).mono ?_
              rintro e w9 ⟨xv9, rfl, hst9, hk9⟩
              replace hkg := hkg.trans hk9))
          go_roundg (gk - 1)
          case rel => exact ⟨k + 1, _, by omega, by go_num, Lib.hid (HN.out _ HT.out), hst9, hkg⟩
          case measure => omega
        | false =>
          obtain ⟨g, hg⟩ : ∃ g, f = g + 1 := ⟨f - 1, by
            rcases Nat.eq_zero_or_pos f with h | h
            · rw [h] at hun
              have := unv_zero hun hqn
              rw [hvis] at this
              cases this
            · omega⟩
          rw [hvis] at p0
          have HT : Hid (foldS (asD P (asC P g) P.ns) (P.pb pq) (P.pl pq) (setU σk.1 pq, σk.2) = (if (P.st m).kind = 8 then asC P f (P.st m).proc σk else σk)) := Lib.hid (by rw [if_pos k8, hg, asC_new (by rw [hq, Int.toNat_natCast]; exact hvis), hq, Int.toNat_natCast])
          have hung : unv P.np (setU σk.1 pq, σk.2) ≤ g := by have := unv_set hqn hvis σk.2; omega
          obtain ⟨bp, op, A8, c8, rfl, hbp, z0, z1, g1⟩ := HP.out.p.at_ hqn
          have CP : Hid (∀ (x : Value) W, Below W0.heap.size W0 W → AStS P (setU σk.1 pq, σk.2) G x W → _) := Lib.hid fun x W hw hs => HC.out g hg lo lo (P.pl pq) (P.pb pq) Av Ax (some ⟨bs, os, none⟩) (some ⟨bp, op, none⟩) Ab A8 cv cx cs cp cb c8 G (setU σk.1 pq, σk.2) x W0 W HP.out g1 hw HGW.out (HSM.out.pl pq hqn) (fun j hj => by have := HBL.out.2.1 pq hqn j hj; omega) hung hs
          have hst6 := hst.mark hqn
          have hk6 := KeepG.set G w5 pq (.bool true)
          have hcb6 := hcb.trans (hk6.1.mono HGW.out)
          have hP6 := hP.only hk6.2 hPG
          have hV6 := hV.only hk6.2 hVG
          obtain ⟨w6, hw6⟩ : ∃ w6, w6 = w5.setCell ⟨G, pq, none⟩ (.bool true) := ⟨_, rfl⟩
          rw [← hw6] at hst6 hk6 hcb6 hP6 hV6
          have y1 := (hcb6.cell (p := ⟨bp, op + pq * 2 + 1, none⟩) hbp).trans z1
          clear k8 hS hpp k23 hvis g1 z0 z1
          go_upto_region 9 with fail
          rw [← hw6]
          clear hw6 q0 q1 q2 q3 q4 q5 qf v0 v1 v2 v3 v4 v5 v6 v7 vf p0 pf hst hP hV hcb
          replace hkg := hkg.trans hk6
          obtain ⟨q0, q1, q2, q3, q4, q5, qf⟩ := hP6.six
          obtain ⟨v0, v1, v2, v3, v4, v5, v6, v7, vf⟩ := hV6.eight
          rw [hq] at v7
          have HBP := Lib.hid (Nat.lt_of_lt_of_le hbp HGW.out)
          go_region_held3 (fun w' => w'.cell? ⟨w.heap.size, 0, none⟩ = some (.slice Av P.nv cv) ∧ w'.cell? ⟨w.heap.size, 1, none⟩ = some (.slice Ax P.nx cx) ∧ w'.cell? ⟨w.heap.size, 2, none⟩ = some (.slice (some ⟨bs, os, none⟩) P.ns cs) ∧ w'.cell? ⟨w.heap.size, 3, none⟩ = some (.slice (some ⟨bp, op, none⟩) P.np cp) ∧ w'.cell? ⟨w.heap.size, 4, none⟩ = some (.slice Ab P.nb cb) ∧ w'.cell? ⟨w.heap.size, 5, none⟩ = some (.int .i64 P.fuel) ∧ w'.cell? ⟨w4.heap.size, 7, none⟩ = some (.int .i64 (pq : Nat)) ∧ w'.cell? ⟨bp, op + pq * 2 + 1, none⟩ = some (.slice A8 (P.pl pq) c8) ∧ KeepG G w6 w')
            ((suffices hK : KeepG G w6 _ from ⟨((hP6.only hK.2 hPG).cell 0), ((hP6.only hK.2 hPG).cell 1), ((hP6.only hK.2 hPG).cell 2), ((hP6.only hK.2 hPG).cell 3), ((hP6.only hK.2 hPG).cell 4), ((hP6.only hK.2 hPG).cell 5), ((hV6.only hK.2 hVG).cell 7).trans (by rw [hq]; rfl), (hK.1.cell (p := ⟨bp, op + pq * 2 + 1, none⟩) HBP.out).trans y1, hK⟩; first | exact ⟨(Below.refl _ w6).drew, Only.drewN (Only.refl _ _) 1⟩ | exact KeepG.refl _ _ | exact holg8 (by assumption) | (refine KeepG.trans (holg8 (by assumption)) ?_; assumption)))
            (first
              | (go_at_call 69; refine (CP.out _ _ (hcb6.trans ((show KeepG G w6 _ from holg8 (by assumption)).1.mono HGW.out)) (hst6.below (Below.refl _ w6).drew)).mono ?_; rintro e w7 ⟨xv7, rfl, hst7, hk7⟩))
          have hk8' : KeepG G w6 w7 := holg8 (by assumption)
          clear q0 q1 q2 q3 q4 q5 qf v0 v1 v2 v3 v4 v5 v6 v7 vf
          have hP := hP6.only hk8'.2 hPG
          have hV := hV6.only hk8'.2 hVG
          have hcb := hcb6.trans (hk8'.1.mono HGW.out)
          replace hkg := hkg.trans hk8'
          have hst := hst7
          have hun : unv P.np (foldS (asD P (asC P g) P.ns) (P.pb pq) (P.pl pq) (setU σk.1 pq, σk.2)) ≤ f := Nat.le_trans (unv_grow (foldS_grow (asD_grow (asC_grow g) _) _ _ _)) (by omega)
          clear hst7 hk7 hst6 hk6 hP6 hV6 hcb6 y1 hung
          obtain ⟨q0, q1, q2, q3, q4, q5, qf⟩ := hP.six
          obtain ⟨v0, v1, v2, v3, v4, v5, v6, v7, vf⟩ := hV.eight
          go_wp2_with (first
           | (go_at_call 69
              with_reducible refine (CT.out _ _ _ hun hcb hst).mono ?_
              rintro e w8 ⟨xv8, rfl, hst8, hk8⟩
              have hun8 : unv P.np (foldS (asD P (asC P f) d') (P.st m).th (P.st m).nt _) ≤ f := Nat.le_trans (unv_grow (foldS_grow (asD_grow (asC_grow f) _) _ _ _)) hun
              have hcb8 := hcb.trans (hk8.1.mono HGW.out)
              clear q0 q1 q2 q3 q4 q5 qf v0 v1 v2 v3 v4 v5 v6 v7 vf
              replace hP := hP.only hk8.2 hPG
              replace hV := hV.only hk8.2 hVG
              replace hkg := hkg.trans hk8
              obtain ⟨q0, q1, q2, q3, q4, q5, qf⟩ := hP.six
              obtain ⟨v0, v1, v2, v3, v4, v5, v6, v7, vf⟩ := hV.eight
              )
           | (go_at_call 69
              with_reducible refine (CE.out _ _ _ hun8 hcb8 hst8).mono ?_
              rintro e w9 ⟨xv9, rfl, hst9, hk9⟩
              replace hkg := hkg.trans hk9))
          go_roundg (gk - 1)
          case rel => exact ⟨k + 1, _, by omega, by go_num, Lib.hid (HN.out _ HT.out), hst9, hkg⟩
          case measure => omega
      · have e8 : ((P.st m).kind == 8) = false := beq_eq_false_iff_ne.2 k8
        have HT : Hid (σk = (if (P.st m).kind = 8 then asC P f (P.st m).proc σk else σk)) := Lib.hid (by rw [if_neg k8])
        clear k8 hS k23
        go_wp2_with (first
         | (go_at_call 69
            with_reducible refine (CT.out _ _ _ hun hcb hst).mono ?_
            rintro e w8 ⟨xv8, rfl, hst8, hk8⟩
            have hun8 : unv P.np (foldS (asD P (asC P f) d') (P.st m).th (P.st m).nt _) ≤ f := Nat.le_trans (unv_grow (foldS_grow (asD_grow (asC_grow f) _) _ _ _)) hun
            have hcb8 := hcb.trans (hk8.1.mono HGW.out)
            clear q0 q1 q2 q3 q4 q5 qf v0 v1 v2 v3 v4 v5 v6 v7 vf
            replace hP := hP.only hk8.2 hPG
            replace hV := hV.only hk8.2 hVG
            replace hkg := hkg.trans hk8
            obtain ⟨q0, q1, q2, q3, q4, q5, qf⟩ := hP.six
            obtain ⟨v0, v1, v2, v3, v4, v5, v6, v7, vf⟩ := hV.eight
            )
         | (go_at_call 69
            with_reducible refine (CE.out _ _ _ hun8 hcb8 hst8).mono ?_
            rintro e w9 ⟨xv9, rfl, hst9, hk9⟩
            replace hkg := hkg.trans hk9))
        go_roundg (gk - 1)
        case rel => exact ⟨k + 1, _, by omega, by go_num, Lib.hid (HN.out _ HT.out), hst9, hkg⟩
        case measure => omega
    · obtain rfl : k = n := by omega
      go_wp2_with fail
      go_ret
      exact ⟨_, rfl, by rw [← hσ.out]; exact hst, hk0.trans hkg⟩

end Go.Proofs.Ytcdgbjklfmlhkaa
