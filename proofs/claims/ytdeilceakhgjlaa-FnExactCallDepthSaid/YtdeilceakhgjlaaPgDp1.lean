/-
  How deep calls go: the model's. (Written by gen_pgdp1.py.)
-/
import Derived.Test.YtdeilceakhgjlaaPgCg1
import Derived.Deep.RegionHeld3
namespace Go.Proofs.Ytdeilceakhgjlaa
open Go.RowKit Num

/-- A statement without a block that no path executes. -/
def idl (s : Stm) : Stm := if s.kind = 7 ∧ s.times = 0 then { s with nt := 0 } else s
def idle (P : Prg) : Prg := { P with st := fun j => idl (P.st j) }
theorem idl_kind (s : Stm) : (idl s).kind = s.kind := by unfold idl; split <;> rfl
theorem idl_proc (s : Stm) : (idl s).proc = s.proc := by unfold idl; split <;> rfl
theorem idl_ne (s : Stm) : (idl s).ne = s.ne := by unfold idl; split <;> rfl
theorem idl_el (s : Stm) : (idl s).el = s.el := by unfold idl; split <;> rfl
theorem idl_th (s : Stm) : (idl s).th = s.th := by unfold idl; split <;> rfl
theorem idl_nt (s : Stm) : (idl s).nt = s.nt ∨ (idl s).nt = 0 := by
  unfold idl
  split
  · exact .inr rfl
  · exact .inl rfl
theorem PgW.idle {P : Prg} (h : PgW P) : PgW (idle P) := by
  refine ⟨h.1, fun j hj k8 => ?_, h.2.2.1, h.2.2.2.1, fun j hj => ?_⟩
  · have k8' : (P.st j).kind = 8 := (idl_kind (P.st j)).symm.trans k8
    have := h.2.1 j hj k8'
    show 0 ≤ (idl (P.st j)).proc ∧ (idl (P.st j)).proc ≤ (P.np : Int) - 1
    rw [idl_proc]
    exact this
  · have := h.2.2.2.2 j hj
    show InR ((j + 1 : Nat) : Int) P.ns (idl (P.st j)).nt (idl (P.st j)).th ∧ InR ((j + 1 : Nat) : Int) P.ns (idl (P.st j)).ne (idl (P.st j)).el
    rw [idl_th, idl_ne, idl_el]
    refine ⟨fun i hi => this.1 i ?_, this.2⟩
    rcases idl_nt (P.st j) with e | e
    · rw [e] at hi; exact hi
    · rw [e] at hi; exact absurd hi (Nat.not_lt_zero i)
theorem clS_no (P : Prg) (s : Stm) (u : Nat → Bool) (h : s.kind ≠ 8) : clS P s u = u := if_neg (fun z => h z.1)
/-- The depth behind one more statement. -/
theorem dep_step (P : Prg) (g : Nat → Nat → Bool) (f d k : Nat) (b : Nat → Int) : dep g f (foldU (clD P d) b (k + 1) nob) = max (dep g f (foldU (clD P d) b k nob)) (dep g f (clD P d (b k) nob)) := by
  rw [foldU_succ, clD_or P d (b k) (foldU (clD P d) b k nob), dep_or]
theorem dep_two (P : Prg) (g : Nat → Nat → Bool) (f d n m : Nat) (b c : Nat → Int) : dep g f (foldU (clD P d) c m (foldU (clD P d) b n nob)) = max (dep g f (foldU (clD P d) b n nob)) (dep g f (foldU (clD P d) c m nob)) := by
  rw [foldU_or (clD_or P d) c m (foldU (clD P d) b n nob), dep_or]
theorem dep_nob (g : Nat → Nat → Bool) (f : Nat) : dep g f nob = 0 := dep_none g f fun _ _ => rfl
theorem dep_le (g : Nat → Nat → Bool) : ∀ (f : Nat) (S : Nat → Bool), dep g f S ≤ f
  | 0, _ => Nat.le_refl 0
  | f + 1, S => by
    rw [dep_succ]
    have := dep_le g f (stp g S)
    split <;> omega
theorem hold7d {p0 p1 p2 p3 p4 p5 p6 K : Prop} (h : p0 ∧ p1 ∧ p2 ∧ p3 ∧ p4 ∧ p5 ∧ p6 ∧ K) : K := h.2.2.2.2.2.2.2
theorem hold8d {p0 p1 p2 p3 p4 p5 p6 p7 K : Prop} (h : p0 ∧ p1 ∧ p2 ∧ p3 ∧ p4 ∧ p5 ∧ p6 ∧ p7 ∧ K) : K := h.2.2.2.2.2.2.2.2

theorem most7_any (a b : Int) (w : World) : Calls Try.prog 85 #[.int .i64 a, .int .i64 b] w fun e w' => e = .returned (.int .i64 (max a b)) ∧ w = w' := by
  by_cases h : a > b
  · have hd : decide (b < a) = true := decide_eq_true h
    have hm : max a b = a := by omega
    rw [hm]
    go_enter Try.func85, Try.ntmps85
    go_wp2_with fail
    go_ret
    exact ⟨rfl, rfl⟩
  · have hd : decide (b < a) = false := decide_eq_false h
    have hm : max a b = b := by omega
    rw [hm]
    go_enter Try.func85, Try.ntmps85
    go_wp2_with fail
    go_ret
    exact ⟨rfl, rfl⟩


/-- What the walk through a block does. -/
def BDS (P : Prg) (d f : Nat) : Prop := ∀ (lo lo1 n : Nat) (b : Nat → Int) (Av Ax As Ap Ab A1 : Option Addr) (cv cx cs cp cb c1 : Nat) (fv : Int) (W0 w : World), PgAt lo W0 Av Ax As Ap Ab P → IntsAt lo1 W0 A1 n b → Below W0.heap.size W0 w → n ≤ 1048576 → (∀ j, j < n → 0 ≤ b j ∧ b j < (P.ns : Int) ∧ (P.ns : Int) ≤ b j + (d : Int)) → fv = (f : Int) - 1 → f ≤ 100 →
  Calls Try.prog 57 #[.agg #[.slice Av P.nv cv, .slice Ax P.nx cx, .slice As P.ns cs, .slice Ap P.np cp, .slice Ab P.nb cb, .int .i64 P.fuel], .slice A1 n c1, .int .i64 fv] w fun e w' => e = .returned (.int .i64 (dep (gr (idle P)) f (foldU (clD (idle P) d) b n nob) : Nat)) ∧ Below w.heap.size w w'

set_option maxRecDepth 100000 in
set_option maxHeartbeats 12800000 in
theorem bdS_of (P : Prg) (hs : P.small) (hok : ∀ j, j < P.ns → StOk P (P.st j)) (hwp : PgW P) (d f : Nat) (hB : ∀ d', d = d' + 1 → BDS P d' f) (hC : ∀ g, f = g + 1 → BDS P P.ns g) : BDS P d f := by
  intro lo lo1 n b Av Ax As Ap Ab A1 cv cx cs cp cb c1 fv W0 w hp hi hb0 hn hb hfv hf
  have hP := Box.new w 37 #[.slice Av P.nv cv, .slice Ax P.nx cx, .slice As P.ns cs, .slice Ap P.np cp, .slice Ab P.nb cb, .int .i64 P.fuel]
  have hal := (Below.refl w.heap.size w).alloc (Nat.le_refl _) (.cells #[.slice Av P.nv cv, .slice Ax P.nx cx, .slice As P.ns cs, .slice Ap P.np cp, .slice Ab P.nb cb, .int .i64 P.fuel] 37)
  have hcb1 := hb0.trans (hal.mono hb0.size)
  obtain ⟨q0, q1, q2, q3, q4, q5, qf⟩ := hP.six
  have HP := Lib.hid hp
  have HI := Lib.hid hi
  have HBD := Lib.hid hb
  have HB := Lib.hid hB
  have HC := Lib.hid hC
  have hnp := hwp.1
  have HWP := Lib.hid hwp
  have HOK := Lib.hid hok
  have HSM := Lib.hid hs
  have HFV := Lib.hid hfv
  have CM : Hid (∀ a b W, _) := Lib.hid fun a b W => most7_any a b W
  obtain ⟨G, hG⟩ : ∃ G, G = gr (idle P) := ⟨_, rfl⟩
  have HG := Lib.hid hG
  rw [← hG]
  clear hp hi hb hB hC hwp hok hs hfv hG
  go_enter Try.func57, Try.ntmps57
  go_wp2_with fail
  clear q0 q1 q2 q3 q4 q5 qf
  obtain ⟨w1, hw1⟩ : ∃ w1, w1 = w.alloc (.cells #[.slice Av P.nv cv, .slice Ax P.nx cx, .slice As P.ns cs, .slice Ap P.np cp, .slice Ab P.nb cb, .int .i64 P.fuel] 37) := ⟨_, rfl⟩
  rw [← hw1] at hP hal hcb1 ⊢
  clear hw1
  go_loopg [7, 13] n (fun q mv iv wr => ∃ (k M : Nat), k + q = n ∧ mv = .int .i64 (M : Nat) ∧ iv = .int .i64 (k : Nat) ∧ Hid (M = dep G f (foldU (clD (idle P) d) b k nob)) ∧ Below w1.heap.size w1 wr)
  case atStart => exact ⟨0, 0, by omega, rfl, rfl, Lib.hid (dep_nob G f).symm, Below.refl _ _⟩
  case round =>
    rename World => w4
    obtain ⟨k, M, hk, rfl, rfl, hM, hkg⟩ := hrel
    replace hP := hP.below hkg hP.lt
    have hcb := hcb1.trans (hkg.mono hcb1.size)
    have hMf : M ≤ f := by rw [hM.out]; exact dep_le G f _
    by_cases hk0' : k < n
    · obtain ⟨hb0, hb1, hb2⟩ := HBD.out k hk0'
      obtain ⟨m, hm⟩ : ∃ m : Nat, b k = (m : Int) := ⟨(b k).toNat, by omega⟩
      obtain ⟨d', rfl⟩ : ∃ d', d = d' + 1 := ⟨d - 1, by omega⟩
      have hmn : m < P.ns := by omega
      have hmi : (m : Int) < (P.ns : Int) := by omega
      obtain ⟨ba, oa, rfl, hba, s0⟩ := (HI.out.below hcb (Nat.le_refl _)).at_ hk0'
      rw [hm] at s0
      obtain ⟨bs, os, A3, c3, A4, c4, A5, c5, rfl, hbs, r0, r1, r2, r3, r4, r5, r6, r7, _, g4, g5⟩ := HP.out.s.at_ hmn
      have t0 := (hcb.cell (p := ⟨bs, os + m * 8, none⟩) hbs).trans r0
      have t1 := (hcb.cell (p := ⟨bs, os + m * 8 + 1, none⟩) hbs).trans r1
      have t2 := (hcb.cell (p := ⟨bs, os + m * 8 + 2, none⟩) hbs).trans r2
      have t3 := (hcb.cell (p := ⟨bs, os + m * 8 + 3, none⟩) hbs).trans r3
      have t4 := (hcb.cell (p := ⟨bs, os + m * 8 + 4, none⟩) hbs).trans r4
      have t5 := (hcb.cell (p := ⟨bs, os + m * 8 + 5, none⟩) hbs).trans r5
      have t6 := (hcb.cell (p := ⟨bs, os + m * 8 + 6, none⟩) hbs).trans r6
      have t7 := (hcb.cell (p := ⟨bs, os + m * 8 + 7, none⟩) hbs).trans r7
      have hV := Box.new w4 110 #[.int .i64 (P.st m).kind, .int .i64 (P.st m).var, .int .i64 (P.st m).ex, .slice A3 (P.st m).nc c3, .slice A4 (P.st m).nt c4, .slice A5 (P.st m).ne c5, .int .i64 (P.st m).times, .int .i64 (P.st m).proc]
      have ha4 := (Below.refl w4.heap.size w4).alloc (Nat.le_refl _) (.cells #[.int .i64 (P.st m).kind, .int .i64 (P.st m).var, .int .i64 (P.st m).ex, .slice A3 (P.st m).nc c3, .slice A4 (P.st m).nt c4, .slice A5 (P.st m).ne c5, .int .i64 (P.st m).times, .int .i64 (P.st m).proc] 110)
      obtain ⟨q0, q1, q2, q3, q4, q5, qf⟩ := hP.six
      replace hP := hP.alloc (.cells #[.int .i64 (P.st m).kind, .int .i64 (P.st m).var, .int .i64 (P.st m).ex, .slice A3 (P.st m).nc c3, .slice A4 (P.st m).nt c4, .slice A5 (P.st m).ne c5, .int .i64 (P.st m).times, .int .i64 (P.st m).proc] 110)
      replace hcb := hcb.trans (ha4.mono hcb.size)
      replace hkg := hkg.trans (ha4.mono hkg.size)
      have hS := HOK.out m hmn
      have hr := HWP.out.2.2.2.2 m hmn
      obtain ⟨T, hT⟩ : ∃ T, T = dep G f (foldU (clD (idle P) d') (P.st m).th (P.st m).nt nob) := ⟨_, rfl⟩
      obtain ⟨E, hE⟩ : ∃ E, E = dep G f (foldU (clD (idle P) d') (P.st m).el (P.st m).ne nob) := ⟨_, rfl⟩
      have CT : Hid (∀ W, Below W0.heap.size W0 W → _) := Lib.hid fun W hw => HB.out d' rfl lo lo (P.st m).nt (P.st m).th Av Ax (some ⟨bs, os, none⟩) Ap Ab A4 cv cx cs cp cb c4 fv W0 W HP.out g4 hw (HSM.out.st m hmn).nt (fun j hj => by have := hr.1 j hj; omega) HFV.out hf
      have CE : Hid (∀ W, Below W0.heap.size W0 W → _) := Lib.hid fun W hw => HB.out d' rfl lo lo (P.st m).ne (P.st m).el Av Ax (some ⟨bs, os, none⟩) Ap Ab A5 cv cx cs cp cb c5 fv W0 W HP.out g5 hw (HSM.out.st m hmn).ne (fun j hj => by have := hr.2 j hj; omega) HFV.out hf
      rw [← HG.out, ← hT] at CT
      rw [← HG.out, ← hE] at CE
      have HTE := Lib.hid (And.intro hT hE)
      have hTf : T ≤ f := by rw [hT]; exact dep_le G f _
      have hEf : E ≤ f := by rw [hE]; exact dep_le G f _
      have HN : Hid (∀ X, X = dep G f (clD (idle P) (d' + 1) (m : Nat) nob) → max M X = dep G f (foldU (clD (idle P) (d' + 1)) b (k + 1) nob)) := Lib.hid fun X hX => by
        rw [dep_step, ← hM.out, hm, ← hX]
      have HD : Hid (clD (idle P) (d' + 1) (m : Nat) nob = foldU (clD (idle P) d') (idl (P.st m)).el (idl (P.st m)).ne (foldU (clD (idle P) d') (idl (P.st m)).th (idl (P.st m)).nt (clS (idle P) (idl (P.st m)) nob))) := Lib.hid (by rw [clD_succ, Int.toNat_natCast]; rfl)
      obtain ⟨w5, hw5⟩ : ∃ w5, w5 = w4.alloc (.cells #[.int .i64 (P.st m).kind, .int .i64 (P.st m).var, .int .i64 (P.st m).ex, .slice A3 (P.st m).nc c3, .slice A4 (P.st m).nt c4, .slice A5 (P.st m).ne c5, .int .i64 (P.st m).times, .int .i64 (P.st m).proc] 110) := ⟨_, rfl⟩
      rw [← hw5] at hV hP hcb hkg
      clear hb0 hb1 hb2 hm hba r0 r1 r2 r3 r4 r5 r6 r7 g4 g5 hr ha4 hT hE
      go_upto_region 7 with fail
      rw [← hw5]
      clear hw5 t0 t1 t2 t3 t4 t5 t6 t7 s0 q0 q1 q2 q3 q4 q5 qf
      obtain ⟨q0, q1, q2, q3, q4, q5, qf⟩ := hP.six
      obtain ⟨v0, v1, v2, v3, v4, v5, v6, v7, vf⟩ := hV.eight
      by_cases k8 : (P.st m).kind = 8
      · have e8 : ((P.st m).kind == 8) = true := by rw [k8]; rfl
        obtain ⟨hpp, hus⟩ := (stOkCall k8).1 hS
        have hnt0 : (P.st m).nt = 0 := hus.2.2.2.2.1 rfl
        have hne0 : (P.st m).ne = 0 := hus.2.2.2.2.2.1 rfl
        have hid : idl (P.st m) = P.st m := if_neg (by omega)
        obtain ⟨pq, hq⟩ : ∃ pq : Nat, (P.st m).proc = (pq : Int) := ⟨(P.st m).proc.toNat, by omega⟩
        have hqn : pq < P.np := by omega
        have HX0 : Hid (clD (idle P) (d' + 1) (m : Nat) nob = setU nob pq) := Lib.hid (by
          rw [HD.out, hid, hnt0, hne0]
          show clS (idle P) (P.st m) nob = _
          rw [clS, if_pos ⟨k8, by show (P.st m).proc.toNat < P.np; omega⟩, hq, Int.toNat_natCast])
        cases f with
        | zero =>
          have hM0 : M = 0 := by omega
          have df : decide (fv < 0) = true := decide_eq_true (by have := HFV.out; omega)
          have HR : Hid (M = dep G 0 (foldU (clD (idle P) (d' + 1)) b (k + 1) nob)) := Lib.hid hM0
          clear k8 hS hpp hus hnt0 hne0 hid hq hM0
          go_wp2_with fail
          go_roundg (gk - 1)
          case rel => exact ⟨k + 1, M, by omega, rfl, by go_num, HR, hkg⟩
          case measure => omega
        | succ g =>
          have df : decide (fv < 0) = false := decide_eq_false (by have := HFV.out; omega)
          have wf : IntKind.i64.wrap (fv - 1) = fv - 1 := IntWalk.i64_in _ (by have := HFV.out; omega)
          obtain ⟨D, hD⟩ : ∃ D, D = dep G g (gr (idle P) pq) := ⟨_, rfl⟩
          have hDg : D ≤ g := by rw [hD]; exact dep_le G g _
          have HXD : Hid (1 + D = dep G (g + 1) (clD (idle P) (d' + 1) (m : Nat) nob)) := Lib.hid (by
            have h1 := dep_one G g pq (by omega)
            rw [HX0.out, hD]
            refine Eq.trans ?_ h1.symm
            rw [HG.out])
          obtain ⟨bp, op, A8, c8, rfl, hbp, z0, z1, g1⟩ := HP.out.p.at_ hqn
          have CP : Hid (∀ W, Below W0.heap.size W0 W → _) := Lib.hid fun W hw => HC.out g rfl lo lo (P.pl pq) (P.pb pq) Av Ax (some ⟨bs, os, none⟩) (some ⟨bp, op, none⟩) Ab A8 cv cx cs cp cb c8 (fv - 1) W0 W HP.out g1 hw (HSM.out.pl pq hqn) (fun j hj => by have := HWP.out.2.2.2.1 pq hqn j hj; omega) (by have := HFV.out; omega) (by omega)
          rw [show dep (gr (idle P)) g (foldU (clD (idle P) P.ns) (P.pb pq) (P.pl pq) nob) = D by rw [hD, HG.out]; congr 1; exact (if_pos hqn).symm] at CP
          have y1 := (hcb.cell (p := ⟨bp, op + pq * 2 + 1, none⟩) hbp).trans z1
          have w1d : IntKind.i64.wrap (1 + (D : Int)) = 1 + (D : Int) := IntWalk.i64_in _ (by omega)
          have HQ := Lib.hid hq
          have HBP := Lib.hid (Nat.lt_of_lt_of_le hbp (Nat.le_of_eq rfl))
          have hqi : (pq : Int) < (P.np : Int) := by omega
          have HW5 := Lib.hid (Nat.lt_of_lt_of_le hbp hcb.size)
          rw [hq] at v7
          clear k8 hS hpp hus hnt0 hne0 hid hq hD z0 z1 g1 CT CE
          go_upto_region 9 with fail
          have hPl := hP.lt
          have hVl := hV.lt
          go_region_held3 (fun w' => w'.cell? ⟨w.heap.size, 0, none⟩ = some (.slice Av P.nv cv) ∧ w'.cell? ⟨w.heap.size, 1, none⟩ = some (.slice Ax P.nx cx) ∧ w'.cell? ⟨w.heap.size, 2, none⟩ = some (.slice (some ⟨bs, os, none⟩) P.ns cs) ∧ w'.cell? ⟨w.heap.size, 3, none⟩ = some (.slice (some ⟨bp, op, none⟩) P.np cp) ∧ w'.cell? ⟨w.heap.size, 4, none⟩ = some (.slice Ab P.nb cb) ∧ w'.cell? ⟨w.heap.size, 5, none⟩ = some (.int .i64 P.fuel) ∧ w'.cell? ⟨w4.heap.size, 7, none⟩ = some (.int .i64 (pq : Nat)) ∧ w'.cell? ⟨bp, op + pq * 2 + 1, none⟩ = some (.slice A8 (P.pl pq) c8) ∧ Below w5.heap.size w5 w')
            ((suffices hK : Below w5.heap.size w5 _ from ⟨(hK.cell hPl).trans q0, (hK.cell hPl).trans q1, (hK.cell hPl).trans q2, (hK.cell hPl).trans q3, (hK.cell hPl).trans q4, (hK.cell hPl).trans q5, (hK.cell hVl).trans v7, (hK.cell (p := ⟨bp, op + pq * 2 + 1, none⟩) HW5.out).trans y1, hK⟩; first | exact (Below.refl _ w5).drew | exact hold8d (by assumption) | (refine stepB (hold8d (by assumption)) ?_; assumption)))
            (first
              | (go_at_call 57; refine (CP.out _ (hcb.trans ((show Below w5.heap.size w5 _ from hold8d (by assumption)).mono hcb.size))).mono ?_; rintro e w7 ⟨rfl, hb7⟩)
              | (go_at_call 85; refine (CM.out _ _ _).mono ?_; rintro e w8 ⟨rfl, rfl⟩))
          have hk8 : Below w5.heap.size w5 _ := hold8d (by assumption)
          go_wp2_with fail
          go_roundg (gk - 1)
          case rel => exact ⟨k + 1, max M (1 + D), by omega, congrArg (fun z => Value.int .i64 z) (by omega), by go_num, Lib.hid (HN.out _ HXD.out), hkg.trans (hk8.mono hkg.size)⟩
          case measure => omega
      · have e8 : ((P.st m).kind == 8) = false := beq_eq_false_iff_ne.2 k8
        have hcl : clS (idle P) (idl (P.st m)) nob = nob := clS_no _ _ _ (by rw [idl_kind]; exact k8)
        by_cases ki : (P.st m).kind = 7 ∧ (P.st m).times = 0
        · have e7 : ((P.st m).kind == 7) = true := by rw [ki.1]; rfl
          have et : ((P.st m).times == 0) = true := by rw [ki.2]; rfl
          have hne0 : (P.st m).ne = 0 := ((stOkWhile ki.1).1 hS).2.2.2.2.2.2.2.1 rfl
          have hnt0 : (idl (P.st m)).nt = 0 := by rw [idl, if_pos ki]
          have HR : Hid (M = dep G f (foldU (clD (idle P) (d' + 1)) b (k + 1) nob)) := Lib.hid (by
            rw [← HN.out 0 (by rw [HD.out, hcl, hnt0, idl_ne, hne0]; exact (dep_nob G f).symm)]
            omega)
          clear k8 hS hcl ki hne0 hnt0
          go_wp2_with fail
          go_roundg (gk - 1)
          case rel => exact ⟨k + 1, M, by omega, rfl, by go_num, HR, hkg⟩
          case measure => omega
        · have hid : idl (P.st m) = P.st m := if_neg ki
          have HXD : Hid (max T E = dep G f (clD (idle P) (d' + 1) (m : Nat) nob)) := Lib.hid (by rw [HD.out, hcl, hid, dep_two, ← HTE.out.1, ← HTE.out.2])
          have e7 : ((P.st m).kind == 7) = false ∨ (((P.st m).kind == 7) = true ∧ ((P.st m).times == 0) = false) := by
            by_cases h7 : (P.st m).kind = 7
            · exact .inr ⟨by rw [h7]; rfl, beq_eq_false_iff_ne.2 fun h => ki ⟨h7, h⟩⟩
            · exact .inl (beq_eq_false_iff_ne.2 h7)
          have HQ4 := Lib.hid v4
          have HQ5 := Lib.hid v5
          have hPl := hP.lt
          have hVl := hV.lt
          clear k8 hS hcl ki hid
          rcases e7 with e7 | ⟨e7, et⟩
          all_goals
            (go_upto_region 6 with fail
             go_region_held3 (fun w' => w'.cell? ⟨w.heap.size, 0, none⟩ = some (.slice Av P.nv cv) ∧ w'.cell? ⟨w.heap.size, 1, none⟩ = some (.slice Ax P.nx cx) ∧ w'.cell? ⟨w.heap.size, 2, none⟩ = some (.slice (some ⟨bs, os, none⟩) P.ns cs) ∧ w'.cell? ⟨w.heap.size, 3, none⟩ = some (.slice Ap P.np cp) ∧ w'.cell? ⟨w.heap.size, 4, none⟩ = some (.slice Ab P.nb cb) ∧ w'.cell? ⟨w.heap.size, 5, none⟩ = some (.int .i64 P.fuel) ∧ w'.cell? ⟨w4.heap.size, 4, none⟩ = some (.slice A4 (P.st m).nt c4) ∧ w'.cell? ⟨w4.heap.size, 5, none⟩ = some (.slice A5 (P.st m).ne c5) ∧ Below w5.heap.size w5 w')
               ((suffices hK : Below w5.heap.size w5 _ from ⟨(hK.cell hPl).trans q0, (hK.cell hPl).trans q1, (hK.cell hPl).trans q2, (hK.cell hPl).trans q3, (hK.cell hPl).trans q4, (hK.cell hPl).trans q5, (hK.cell hVl).trans v4, (hK.cell hVl).trans v5, hK⟩; first | exact (Below.refl _ w5).drew | exact hold8d (by assumption) | (refine stepB (hold8d (by assumption)) ?_; assumption)))
               (first
                 | (go_at_call 57; with_reducible refine (CT.out _ (hcb.trans ((show Below w5.heap.size w5 _ from hold8d (by assumption)).mono hcb.size))).mono ?_; rintro e w7 ⟨rfl, hb7⟩)
                 | (go_at_call 57; with_reducible refine (CE.out _ (hcb.trans ((show Below w5.heap.size w5 _ from hold8d (by assumption)).mono hcb.size))).mono ?_; rintro e w8 ⟨rfl, hb8⟩)
                 | (go_at_call 85; refine (CM.out _ _ _).mono ?_; rintro e w9 ⟨rfl, rfl⟩))
             have hk8 : Below w5.heap.size w5 _ := hold8d (by assumption)
             go_wp2_with fail
             go_roundg (gk - 1)
             case rel => exact ⟨k + 1, max M (max T E), by omega, congrArg (fun z => Value.int .i64 z) (by omega), by go_num, Lib.hid (HN.out _ HXD.out), hkg.trans (hk8.mono hkg.size)⟩
             case measure => omega)
    · obtain rfl : k = n := by omega
      go_wp2_with fail
      go_ret
      exact ⟨by rw [hM.out]; rfl, hal.trans (hkg.mono hal.size)⟩

theorem bdS_all (P : Prg) (hs : P.small) (F : PgOk P) : ∀ f d, BDS P d f := by
  intro f
  induction f using Nat.strongRecOn with
  | _ f ih =>
    intro d
    induction d with
    | zero => exact bdS_of P hs F.2.2.2.2.2.1 F.w 0 f (fun d' h => by omega) (fun g hg => ih g (by omega) P.ns)
    | succ d ihd => exact bdS_of P hs F.2.2.2.2.2.1 F.w (d + 1) f (fun d' h => (show d = d' by omega) ▸ ihd) (fun g hg => ih g (by omega) P.ns)

end Go.Proofs.Ytdeilceakhgjlaa
