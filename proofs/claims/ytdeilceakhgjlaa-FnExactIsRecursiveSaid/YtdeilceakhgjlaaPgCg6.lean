/-
  IsRecursive: the model's. (Written by gen_pgcg6.py.)
-/
import Derived.Test.YtdeilceakhgjlaaPgCg5
namespace Go.Proofs.Ytdeilceakhgjlaa
open Go.RowKit Num

/-- The set, and what the first t of the list call. -/
def accT (g : Nat → Nat → Bool) (u : Nat → Bool) (xs : List Int) (t : Nat) : Nat → Bool := fun j => u j || (xs.take t).any fun q => g q.toNat j
theorem accT_zero (g : Nat → Nat → Bool) (u : Nat → Bool) (xs : List Int) : accT g u xs 0 = u := by
  funext j; simp [accT]
theorem accT_succ (g : Nat → Nat → Bool) (u : Nat → Bool) {xs : List Int} {t : Nat} (h : t < xs.length) : accT g u xs (t + 1) = fun j => accT g u xs t j || g (xs.getD t 0).toNat j := by
  funext j
  simp only [accT, take_snoc h, List.any_append, List.any_cons, List.any_nil, Bool.or_false, Bool.or_assoc]
/-- The set, and the first s of the list. -/
def putL (v : Nat → Bool) (ys : List Int) (s : Nat) : Nat → Bool := fun j => v j || (ys.take s).any fun z => z == (j : Int)
theorem putL_zero (v : Nat → Bool) (ys : List Int) : putL v ys 0 = v := by
  funext j; simp [putL]
theorem putL_succ (v : Nat → Bool) {ys : List Int} {s e : Nat} (h : s < ys.length) (he : ys.getD s 0 = (e : Int)) : putL v ys (s + 1) = setU (putL v ys s) e := by
  funext j
  have hj : ((e : Int) == (j : Int)) = (j == e) := by rw [Bool.eq_iff_iff, beq_iff_eq, beq_iff_eq]; omega
  simp only [putL, setU, take_snoc h, he, List.any_append, List.any_cons, List.any_nil, Bool.or_false, Bool.or_assoc, hj]
theorem putL_all (v r : Nat → Bool) (hr : ∀ j, r j = true → j < 3) {n : Nat} (hn : n = (ups r 3).length) : putL v (ups r 3) n = fun j => v j || r j := by
  subst hn
  funext j
  have : (ups r 3).any (fun z => z == (j : Int)) = r j := by
    rw [Bool.eq_iff_iff, List.any_eq_true]
    constructor
    · rintro ⟨z, hz, e⟩
      obtain ⟨i, _, hi, rfl⟩ := mem_ups.1 hz
      rw [beq_iff_eq] at e
      obtain rfl : i = j := by omega
      exact hi
    · intro h
      exact ⟨(j : Int), mem_ups.2 ⟨j, hr j h, h, rfl⟩, beq_self_eq_true _⟩
  simp only [putL, List.take_length, this]
theorem ups_any (u f : Nat → Bool) : (ups u 3).any (fun q => f q.toNat) = ((u 0 && f 0) || (u 1 && f 1) || (u 2 && f 2)) := by
  rw [ups_succ, ups_succ, ups_succ]
  cases u 0 <;> cases u 1 <;> cases u 2 <;> simp [ups, upsN]
  rw [Bool.or_assoc]
theorem accT_all (g : Nat → Nat → Bool) (u : Nat → Bool) {n : Nat} (hn : n = (ups u 3).length) : accT g u (ups u 3) n = fun j => u j || stp g u j := by
  subst hn
  funext j
  simp only [accT, List.take_length, stp]
  rw [ups_any u (fun q => g q j)]
theorem acc_lt {P : Prg} {p : Nat} : ∀ {k j : Nat}, acc (gr P) p k j = true → j < P.np
  | 0, j, h => gr_lt P p j h
  | k + 1, j, h => by
    simp only [acc, stp, Bool.or_eq_true, Bool.and_eq_true] at h
    rcases h with h | (⟨_, b⟩ | ⟨_, b⟩) | ⟨_, b⟩
    · exact acc_lt h
    · exact gr_lt P _ j b
    · exact gr_lt P _ j b
    · exact gr_lt P _ j b
theorem acc_step (g : Nat → Nat → Bool) (p k : Nat) : acc g p (k + 1) = fun j => acc g p k j || stp g (acc g p k) j := rfl

set_option maxRecDepth 100000 in
set_option maxHeartbeats 12800000 in
theorem specGraph_no (lo : Nat) (P : Prg) (Av Ax As Ap Ab : Option Addr) (cv cx cs cp cb : Nat) (w : World) (hs : P.small) (hcv : P.nv ≤ cv) (hcp : P.np ≤ cp) (F0 : ¬ PgOk P) (h : PgAt lo w Av Ax As Ap Ab P) :
    Calls Try.prog 12 #[.agg #[.slice Av P.nv cv, .slice Ax P.nx cx, .slice As P.ns cs, .slice Ap P.np cp, .slice Ab P.nb cb, .int .i64 P.fuel]] w fun e w' => e = .returned (.tuple #[.slice none 0 0, .bool false]) ∧ Below w.heap.size w w' := by
  have hP := Box.new w 37 #[.slice Av P.nv cv, .slice Ax P.nx cx, .slice As P.ns cs, .slice Ap P.np cp, .slice Ab P.nb cb, .int .i64 P.fuel]
  have hB := (Below.refl w.heap.size w).alloc (Nat.le_refl _) (.cells #[.slice Av P.nv cv, .slice Ax P.nx cx, .slice As P.ns cs, .slice Ap P.np cp, .slice Ab P.nb cb, .int .i64 P.fuel] 37)
  obtain ⟨q0, q1, q2, q3, q4, q5, qf⟩ := hP.six
  have H := Lib.hid h
  have HSM := Lib.hid hs
  have F := Lib.hid F0
  clear F0 h hs
  go_enter Try.func12, Try.ntmps12
  go_wp2_with (first
      | (go_at_call 42
         refine (specVal_any lo P Av Ax As Ap Ab cv cx cs cp cb _ HSM.out hcv hcp (H.out.below hB (Nat.le_refl _))).mono ?_
         rintro e w1 ⟨r, rfl, hr, hb⟩
         obtain rfl : r = false := by cases r with | false => rfl | true => exact absurd (hr.out.1 rfl) F.out
         clear q0 q1 q2 q3 q4 q5 qf hr
         replace hP := hP.below hb hP.lt
         replace hB := hB.trans (hb.mono hB.size)
         clear hb
         obtain ⟨q0, q1, q2, q3, q4, q5, qf⟩ := hP.six))
  go_ret2
  exact ⟨rfl, hB⟩

set_option maxRecDepth 100000 in
set_option maxHeartbeats 12800000 in
theorem specRec_any1 (lo : Nat) (P : Prg) (Av Ax As Ap Ab : Option Addr) (cv cx cs cp cb : Nat) (m : Int) (w : World) (hs : P.small) (hcv : P.nv ≤ cv) (hcp : P.np ≤ cp) (h : PgAt lo w Av Ax As Ap Ab P) (F0 : ¬ PgOk P) :
    Calls Try.prog 18 #[.agg #[.slice Av P.nv cv, .slice Ax P.nx cx, .slice As P.ns cs, .slice Ap P.np cp, .slice Ab P.nb cb, .int .i64 P.fuel], .int .i64 m] w fun e w' => e = .returned (.tuple #[.bool false, .bool false]) ∧ Below w.heap.size w w' := by
  have hP := Box.new w 37 #[.slice Av P.nv cv, .slice Ax P.nx cx, .slice As P.ns cs, .slice Ap P.np cp, .slice Ab P.nb cb, .int .i64 P.fuel]
  have hB := (Below.refl w.heap.size w).alloc (Nat.le_refl _) (.cells #[.slice Av P.nv cv, .slice Ax P.nx cx, .slice As P.ns cs, .slice Ap P.np cp, .slice Ab P.nb cb, .int .i64 P.fuel] 37)
  obtain ⟨q0, q1, q2, q3, q4, q5, qf⟩ := hP.six
  have H := Lib.hid h
  have HSM := Lib.hid hs
  have CG : Hid (∀ W, Below w.heap.size w W → _) := Lib.hid fun W (hw : Below w.heap.size w W) => specGraph_no lo P Av Ax As Ap Ab cv cx cs cp cb W hs hcv hcp F0 (h.below hw (Nat.le_refl _))
  clear F0 h hs
  go_enter Try.func18, Try.ntmps18
  go_wp2_with (go_at_call 12; refine (CG.out _ hB).mono ?_; rintro e w3 ⟨rfl, hb⟩; replace hB := hB.trans (hb.mono hB.size))
  go_ret2
  exact ⟨rfl, hB⟩

set_option maxRecDepth 100000 in
set_option maxHeartbeats 12800000 in
theorem specRec_any2 (lo : Nat) (P : Prg) (Av Ax As Ap Ab : Option Addr) (cv cx cs cp cb : Nat) (m : Int) (w : World) (hs : P.small) (hcv : P.nv ≤ cv) (hcp : P.np ≤ cp) (h : PgAt lo w Av Ax As Ap Ab P) (F0 : PgOk P) (G0 : ¬ (0 ≤ m ∧ m < (P.np : Int))) :
    Calls Try.prog 18 #[.agg #[.slice Av P.nv cv, .slice Ax P.nx cx, .slice As P.ns cs, .slice Ap P.np cp, .slice Ab P.nb cb, .int .i64 P.fuel], .int .i64 m] w fun e w' => e = .returned (.tuple #[.bool false, .bool false]) ∧ Below w.heap.size w w' := by
  have hP := Box.new w 37 #[.slice Av P.nv cv, .slice Ax P.nx cx, .slice As P.ns cs, .slice Ap P.np cp, .slice Ab P.nb cb, .int .i64 P.fuel]
  have hB := (Below.refl w.heap.size w).alloc (Nat.le_refl _) (.cells #[.slice Av P.nv cv, .slice Ax P.nx cx, .slice As P.ns cs, .slice Ap P.np cp, .slice Ab P.nb cb, .int .i64 P.fuel] 37)
  obtain ⟨q0, q1, q2, q3, q4, q5, qf⟩ := hP.six
  have H := Lib.hid h
  have HSM := Lib.hid hs
  have wn : IntKind.i64.wrap ((P.np : Int) - 1) = (P.np : Int) - 1 := IntWalk.i64_in _ (by have := hs.np; omega)
  have CN : Hid (∀ W, _) := Lib.hid fun W => in3_any m 0 ((P.np : Int) - 1) W
  have CG : Hid (∀ W, Below w.heap.size w W → _) := Lib.hid fun W (hw : Below w.heap.size w W) => specGraph_any lo P Av Ax As Ap Ab cv cx cs cp cb W hs hcv hcp F0 (h.below hw (Nat.le_refl _))
  have hd : decide ((0 : Int) ≤ m ∧ m ≤ (P.np : Int) - 1) = false := decide_eq_false (by omega)
  rw [hd] at CN
  clear F0 h hs hd G0
  go_enter Try.func18, Try.ntmps18
  go_wp2_with (first
      | (go_at_call 12
         refine (CG.out _ hB).mono ?_
         rintro e w3 ⟨gv, rfl, hg, hb⟩
         have hz1 := hB.size
         clear q0 q1 q2 q3 q4 q5 qf
         replace hP := hP.below hb hP.lt
         replace hB := hB.trans (hb.mono hB.size)
         clear hb
         obtain ⟨q0, q1, q2, q3, q4, q5, qf⟩ := hP.six)
      | (go_at_call 51; refine (CN.out _).mono ?_; rintro e w2 ⟨rfl, rfl⟩))
  go_ret2
  exact ⟨rfl, hB⟩

set_option maxRecDepth 100000 in
set_option maxHeartbeats 12800000 in
theorem specRec_any3 (lo : Nat) (P : Prg) (Av Ax As Ap Ab : Option Addr) (cv cx cs cp cb : Nat) (m : Int) (w : World) (hs : P.small) (hcv : P.nv ≤ cv) (hcp : P.np ≤ cp) (h : PgAt lo w Av Ax As Ap Ab P) (F0 : PgOk P) (G0 : 0 ≤ m ∧ m < (P.np : Int)) :
    Calls Try.prog 18 #[.agg #[.slice Av P.nv cv, .slice Ax P.nx cx, .slice As P.ns cs, .slice Ap P.np cp, .slice Ab P.nb cb, .int .i64 P.fuel], .int .i64 m] w fun e w' => e = .returned (.tuple #[.bool (acc (gr P) m.toNat P.np m.toNat), .bool true]) ∧ Below w.heap.size w w' := by
  have hP := Box.new w 37 #[.slice Av P.nv cv, .slice Ax P.nx cx, .slice As P.ns cs, .slice Ap P.np cp, .slice Ab P.nb cb, .int .i64 P.fuel]
  have hB := (Below.refl w.heap.size w).alloc (Nat.le_refl _) (.cells #[.slice Av P.nv cv, .slice Ax P.nx cx, .slice As P.ns cs, .slice Ap P.np cp, .slice Ab P.nb cb, .int .i64 P.fuel] 37)
  obtain ⟨q0, q1, q2, q3, q4, q5, qf⟩ := hP.six
  have H := Lib.hid h
  have HSM := Lib.hid hs
  have wn : IntKind.i64.wrap ((P.np : Int) - 1) = (P.np : Int) - 1 := IntWalk.i64_in _ (by have := hs.np; omega)
  have CN : Hid (∀ W, _) := Lib.hid fun W => in3_any m 0 ((P.np : Int) - 1) W
  have CG : Hid (∀ W, Below w.heap.size w W → _) := Lib.hid fun W (hw : Below w.heap.size w W) => specGraph_any lo P Av Ax As Ap Ab cv cx cs cp cb W hs hcv hcp F0 (h.below hw (Nat.le_refl _))
  have hd : decide ((0 : Int) ≤ m ∧ m ≤ (P.np : Int) - 1) = true := decide_eq_true (by omega)
  rw [hd] at CN
  have hnp : P.np ≤ 3 := F0.2.2.1.2
  obtain ⟨p, rfl⟩ : ∃ p : Nat, m = (p : Int) := ⟨m.toNat, by omega⟩
  rw [Int.toNat_natCast]
  have hp : p < P.np := by omega
  have hpi : (p : Int) < ((P.np + 1 : Nat) : Int) := by omega
  clear F0 h hs hd G0
  go_enter Try.func18, Try.ntmps18
  go_upto_region 4 with (first
      | (go_at_call 12
         refine (CG.out _ hB).mono ?_
         rintro e w3 ⟨gv, rfl, hg, hb⟩
         have hz1 := hB.size
         clear q0 q1 q2 q3 q4 q5 qf
         replace hP := hP.below hb hP.lt
         replace hB := hB.trans (hb.mono hB.size)
         clear hb
         obtain ⟨q0, q1, q2, q3, q4, q5, qf⟩ := hP.six)
      | (go_at_call 51; refine (CN.out _).mono ?_; rintro e w2 ⟨rfl, rfl⟩))
  rename World => w3
  obtain ⟨g, cap, A, c, rfl, hgl, s0, hrow⟩ := hg.row (show p < P.np + 1 by omega)
  have hps := hP.lt
  have hl0 := ups_le (gr P p) 3
  have CO := Lib.hid (own1_any _ _ _ w3 (by omega) (Or.inl hrow))
  have HG := Lib.hid hg
  generalize (ups (gr P p) 3).length = n0 at s0 CO
  clear hrow hg hl0
  go_wp2_with (go_at_call 52; refine CO.out.mono ?_; rintro e w4 ⟨v4, rfl, ho4, hb4⟩; replace hP := hP.below hb4 hP.lt; replace hB := hB.trans (hb4.mono hB.size); clear q0 q1 q2 q3 q4 q5 qf s0; obtain ⟨q0, q1, q2, q3, q4, q5, qf⟩ := hP.six)
  rename World => w4
  replace HG := Lib.hid (HG.out.below hb4 (Nat.le_refl _))
  have hz4 := hB.size
  replace ho4 := ho4.low (show w.heap.size ≤ w3.heap.size by omega)
  go_loopg [8, 37] P.np (fun q rv iv wr => ∃ (k : Nat), k + q = P.np ∧ iv = .int .i64 (k : Nat) ∧ OutE w.heap.size wr rv (ups (acc (gr P) p k) 3) ∧ Below w4.heap.size w4 wr)
  case atStart => exact ⟨0, by omega, rfl, ho4, Below.refl _ _⟩
  case round =>
    rename World => w5
    obtain ⟨k, hk, rfl, hou, hbel⟩ := hrel
    have hB5 := hB.trans (hbel.mono hz4)
    have hz5 := hB5.size
    by_cases hk0 : k < P.np
    · obtain ⟨u, hu⟩ : ∃ u, u = acc (gr P) p k := ⟨_, rfl⟩
      have HU : Hid (∀ j, u j = true → j < P.np) := Lib.hid fun j hj => by rw [hu] at hj; exact acc_lt hj
      have HN : Hid (acc (gr P) p (k + 1) = fun j => u j || stp (gr P) u j) := Lib.hid (by rw [hu, acc_step])
      rw [← hu] at hou
      have CW := Lib.hid (own1_any _ _ _ w5 (by have := ups_le u 3; omega) hou)
      clear hu
      go_upto_region 7 with fail
      go_wp2_with (go_at_call 52; refine CW.out.mono ?_; rintro e w6 ⟨v6, rfl, ho6, hb6⟩; obtain ⟨A6, c6, rfl, hls6⟩ := ho6.open)
      rename World => w6
      have hB6 := hB5.trans (hb6.mono hz5)
      have hz6 := hB6.size
      have hou6 := hou.below hb6 (Nat.le_refl _)
      have hbel6 := hbel.trans (hb6.mono hbel.size)
      obtain ⟨n, hn⟩ : ∃ n, n = (ups u 3).length := ⟨_, rfl⟩
      have hn3 : n ≤ 3 := by rw [hn]; exact ups_le u 3
      have HN3 := Lib.hid hn
      have HL6 := Lib.hid hls6
      rw [← hn]
      clear hn hls6 ho6 CW
      go_loopg [8, 42] n (fun q rv iv wr => ∃ (t : Nat), t + q = n ∧ iv = .int .i64 (t : Nat) ∧ OutE w.heap.size wr rv (ups (accT (gr P) u (ups u 3) t) 3) ∧ Below w6.heap.size w6 wr)
      case atStart => exact ⟨0, by omega, rfl, by rw [accT_zero]; exact hou6, Below.refl _ _⟩
      case round =>
        rename World => w7
        obtain ⟨t, ht, rfl, hou7, hbel7⟩ := hrel
        have hB7 := hB6.trans (hbel7.mono hz6)
        have hz7 := hB7.size
        by_cases ht0 : t < n
        · have htl : t < (ups u 3).length := by rw [← HN3.out]; exact ht0
          obtain ⟨b, off, rfl, hb, r0⟩ := (IntsAt.below HL6.out hbel7 (Nat.le_refl _)).at_ htl
          obtain ⟨q, hq3, hqu, hqe⟩ := mem_ups.1 (show (ups u 3).getD t 0 ∈ ups u 3 by rw [List.getD, List.getElem?_eq_getElem htl]; exact List.getElem_mem htl)
          have hqn := HU.out q hqu
          have hqi : (q : Int) < ((P.np + 1 : Nat) : Int) := by omega
          rw [hqe] at r0
          have HT : Hid (accT (gr P) u (ups u 3) (t + 1) = fun j => accT (gr P) u (ups u 3) t j || gr P q j) := Lib.hid (by rw [accT_succ _ _ htl, hqe, Int.toNat_natCast])
          generalize accT (gr P) u (ups u 3) t = v at hou7 HT
          obtain ⟨g', cap', A7, c7, e7, hg7, s7, hrow⟩ := ((HG.out.below hbel6 (Nat.le_refl _)).below hbel7 (Nat.le_refl _)).row (show q < P.np + 1 by omega)
          injection e7 with e7 _ e8
          injection e7 with e7
          injection e7 with e7 _ _
          subst e7 e8
          obtain ⟨A8, c8, e8, _, hls8⟩ := hrow.open
          injection e8 with e1 _ e3
          subst e1 e3
          obtain ⟨rl, hrl⟩ : ∃ rl, rl = (ups (gr P q) 3).length := ⟨_, rfl⟩
          have hrl3 : rl ≤ 3 := by rw [hrl]; exact ups_le _ 3
          rw [← hrl] at s7
          have HRL := Lib.hid hrl
          have HL8 := Lib.hid hls8
          clear hrl hls8 hrow htl hqe hqu
          go_wp2_with fail
          go_loopg [8, 51] rl (fun q' rv iv wr => ∃ (s : Nat), s + q' = rl ∧ iv = .int .i64 (s : Nat) ∧ OutE w.heap.size wr rv (ups (putL v (ups (gr P q) 3) s) 3) ∧ Below w7.heap.size w7 wr)
          case atStart => exact ⟨0, by omega, rfl, by rw [putL_zero]; exact hou7, Below.refl _ _⟩
          case round =>
            rename World => w8
            obtain ⟨s, hs, rfl, hou8, hbel8⟩ := hrel
            have hz8 := hbel8.size
            by_cases hs0 : s < rl
            · have hsl : s < (ups (gr P q) 3).length := by rw [← HRL.out]; exact hs0
              obtain ⟨b8, off8, rfl, hb8, r8⟩ := (IntsAt.below HL8.out hbel8 (Nat.le_refl _)).at_ hsl
              obtain ⟨e, he3, _, hee⟩ := mem_ups.1 (show (ups (gr P q) 3).getD s 0 ∈ ups (gr P q) 3 by rw [List.getD, List.getElem?_eq_getElem hsl]; exact List.getElem_mem hsl)
              rw [hee] at r8
              have HS : Hid (putL v (ups (gr P q) 3) (s + 1) = setU (putL v (ups (gr P q) 3) s) e) := Lib.hid (putL_succ v hsl hee)
              have CT := Lib.hid (putE_any w.heap.size _ 3 e _ w8 he3 (by omega) (by omega) hou8)
              clear hee hsl
              go_wp2_with (go_at_call 53; refine CT.out.mono ?_; rintro e9 w9 ⟨xv9, rfl, ho9, hb9⟩)
              go_roundg (gk - 1)
              case rel => exact ⟨s + 1, by omega, by go_num, by rw [HS.out]; exact ho9, hbel8.trans (hb9.mono hbel8.size)⟩
              case measure => omega
            · obtain rfl : s = rl := by omega
              have HE : Hid (accT (gr P) u (ups u 3) (t + 1) = putL v (ups (gr P q) 3) s) := Lib.hid (by rw [HT.out, putL_all v (gr P q) (fun j hj => by have := gr_lt P q j hj; omega) HRL.out])
              go_wp2_with fail
              go_roundg (n - (t + 1))
              case rel => exact ⟨t + 1, by omega, by go_num, by rw [HE.out]; exact hou8, hbel7.trans (hbel8.mono hbel7.size)⟩
              case measure => omega
        · obtain rfl : t = n := by omega
          have HE : Hid (acc (gr P) p (k + 1) = accT (gr P) u (ups u 3) t) := Lib.hid (by rw [HN.out, accT_all (gr P) u HN3.out])
          go_wp2_with fail
          go_roundg (P.np - (k + 1))
          case rel => exact ⟨k + 1, by omega, by go_num, by rw [HE.out]; exact hou7, hbel6.trans (hbel7.mono hbel6.size)⟩
          case measure => omega
    · obtain rfl : k = P.np := by omega
      obtain ⟨A9, c9, rfl, hls9⟩ := hou.open
      have CH := Lib.hid (has1_any w.heap.size c9 A9 (ups (acc (gr P) p P.np) 3).length (fun j => (ups (acc (gr P) p P.np) 3).getD j 0) (p : Int) w5 (by have := ups_le (acc (gr P) p P.np) 3; omega) hls9)
      have hiff := Lib.hid ((SetOf.ups (acc (gr P) p P.np)).has (show p < 3 by omega))
      have hw5 := hB5
      go_wp2_with (go_at_call 54; refine CH.out.mono ?_; rintro e w6 ⟨r, rfl, hr, hb⟩)
      go_ret2
      have he : r = acc (gr P) p P.np p := Bool.eq_iff_iff.2 (hr.out.trans hiff.out)
      exact ⟨by rw [he]; rfl, hw5.trans (hb.mono hw5.size)⟩

theorem specRec_any (lo : Nat) (P : Prg) (Av Ax As Ap Ab : Option Addr) (cv cx cs cp cb : Nat) (m : Int) (w : World) (hs : P.small) (hcv : P.nv ≤ cv) (hcp : P.np ≤ cp) (h : PgAt lo w Av Ax As Ap Ab P) :
    Calls Try.prog 18 #[.agg #[.slice Av P.nv cv, .slice Ax P.nx cx, .slice As P.ns cs, .slice Ap P.np cp, .slice Ab P.nb cb, .int .i64 P.fuel], .int .i64 m] w fun e w' => e = .returned (.tuple #[.bool (recA P m), .bool (recB P m)]) ∧ Below w.heap.size w w' := by
  by_cases F0 : PgOk P
  · by_cases G0 : 0 ≤ m ∧ m < (P.np : Int)
    · have hy := rec_yes (P := P) (m := m) ⟨F0, G0⟩
      rw [hy.1, hy.2]
      exact specRec_any3 lo P Av Ax As Ap Ab cv cx cs cp cb m w hs hcv hcp h F0 G0
    · have hy := rec_no (P := P) (m := m) (fun z => G0 z.2)
      rw [hy.1, hy.2]
      exact specRec_any2 lo P Av Ax As Ap Ab cv cx cs cp cb m w hs hcv hcp h F0 G0
  · have hy := rec_no (P := P) (m := m) (fun z => F0 z.1)
    rw [hy.1, hy.2]
    exact specRec_any1 lo P Av Ax As Ap Ab cv cx cs cp cb m w hs hcv hcp h F0

end Go.Proofs.Ytdeilceakhgjlaa
