/-
  IsRecursive: the model's and the program's. (Written by gen_pgcg5.py.)
-/
import Derived.Test.YtdeilceakhgjlaaPgCg4
namespace Go.Proofs.Ytdeilceakhgjlaa
open Go.RowKit Num

/-- The list holds just the numbers below 3 of the set. -/
def SetOf (xs : List Int) (S : Nat → Bool) : Prop := ∀ z, z ∈ xs ↔ ∃ j : Nat, j < 3 ∧ S j = true ∧ z = (j : Int)
theorem SetOf.ups (S : Nat → Bool) : SetOf (ups S 3) S := fun _ => mem_ups
theorem SetOf.fl {P : Prg} {xs : List Int} {S : Nat → Bool} (h : SetOf xs S) : SetOf (flP P xs) (stp (gr P) S) := fun z => by
  simp only [flP, List.mem_flatMap]
  constructor
  · rintro ⟨q, hq, hz⟩
    obtain ⟨i, hi, hs, rfl⟩ := (h q).1 hq
    obtain ⟨j, hj, hg, rfl⟩ := mem_ups.1 hz
    rw [Int.toNat_natCast] at hg
    refine ⟨j, hj, ?_, rfl⟩
    simp only [stp, Bool.or_eq_true, Bool.and_eq_true]
    have hc : i = 0 ∨ i = 1 ∨ i = 2 := by omega
    rcases hc with rfl | rfl | rfl
    · exact .inl (.inl ⟨hs, hg⟩)
    · exact .inl (.inr ⟨hs, hg⟩)
    · exact .inr ⟨hs, hg⟩
  · rintro ⟨j, hj, hs, rfl⟩
    simp only [stp, Bool.or_eq_true, Bool.and_eq_true] at hs
    have key : ∀ i : Nat, i < 3 → S i = true → gr P i j = true → ∃ a, a ∈ xs ∧ (j : Int) ∈ Go.Proofs.Ytdeilceakhgjlaa.ups (gr P a.toNat) 3 := fun i hi h1 h2 => ⟨(i : Int), (h _).2 ⟨i, hi, h1, rfl⟩, mem_ups.2 ⟨j, hj, by rw [Int.toNat_natCast]; exact h2, rfl⟩⟩
    rcases hs with (⟨a, b⟩ | ⟨a, b⟩) | ⟨a, b⟩
    · exact key 0 (by omega) a b
    · exact key 1 (by omega) a b
    · exact key 2 (by omega) a b
theorem SetOf.has {xs : List Int} {S : Nat → Bool} (h : SetOf xs S) {q : Nat} (hq : q < 3) : (∃ j, j < xs.length ∧ xs.getD j 0 = (q : Int)) ↔ S q = true := by
  constructor
  · rintro ⟨j, hj, e⟩
    have : (q : Int) ∈ xs := by rw [← e, List.getD, List.getElem?_eq_getElem hj]; exact List.getElem_mem hj
    obtain ⟨i, _, hs, e2⟩ := (h _).1 this
    obtain rfl : i = q := by omega
    exact hs
  · intro hs
    have : (q : Int) ∈ xs := (h _).2 ⟨q, hq, hs, rfl⟩
    obtain ⟨j, hj, e⟩ := List.mem_iff_getElem.1 this
    exact ⟨j, hj, by rw [List.getD, List.getElem?_eq_getElem hj]; exact e⟩
def bnd : Nat → Nat
  | 0 => 3
  | k + 1 => 3 * bnd k
theorem bnd_le : ∀ k, k ≤ 4 → bnd k ≤ 243
  | 0, _ => by decide
  | 1, _ => by decide
  | 2, _ => by decide
  | 3, _ => by decide
  | 4, _ => by decide
  | _ + 5, h => by omega
theorem bnd_succ (k : Nat) : bnd (k + 1) = 3 * bnd k := rfl

/-- The answer. -/
def RecOk (P : Prg) (m : Int) : Prop := PgOk P ∧ 0 ≤ m ∧ m < (P.np : Int)
open Classical in
noncomputable def recA (P : Prg) (m : Int) : Bool := if RecOk P m then acc (gr P) m.toNat P.np m.toNat else false
open Classical in
noncomputable def recB (P : Prg) (m : Int) : Bool := if RecOk P m then true else false
theorem rec_no {P : Prg} {m : Int} (h : ¬ RecOk P m) : recA P m = false ∧ recB P m = false := ⟨if_neg h, if_neg h⟩
theorem rec_yes {P : Prg} {m : Int} (h : RecOk P m) : recA P m = acc (gr P) m.toNat P.np m.toNat ∧ recB P m = true := ⟨if_pos h, if_pos h⟩

set_option maxRecDepth 100000 in
set_option maxHeartbeats 12800000 in
theorem implRec_any1 (lo : Nat) (P : Prg) (Av Ax As Ap Ab : Option Addr) (cv cx cs cp cb : Nat) (m : Int) (w : World) (hs : P.small) (h : PgAt lo w Av Ax As Ap Ab P) (F0 : ¬ PgOk P) :
    Calls Try.prog 19 #[.agg #[.slice Av P.nv cv, .slice Ax P.nx cx, .slice As P.ns cs, .slice Ap P.np cp, .slice Ab P.nb cb, .int .i64 P.fuel], .int .i64 m] w fun e w' => e = .returned (.tuple #[.bool false, .bool false]) ∧ Below w.heap.size w w' := by
  have hP := Box.new w 37 #[.slice Av P.nv cv, .slice Ax P.nx cx, .slice As P.ns cs, .slice Ap P.np cp, .slice Ab P.nb cb, .int .i64 P.fuel]
  have hB := (Below.refl w.heap.size w).alloc (Nat.le_refl _) (.cells #[.slice Av P.nv cv, .slice Ax P.nx cx, .slice As P.ns cs, .slice Ap P.np cp, .slice Ab P.nb cb, .int .i64 P.fuel] 37)
  obtain ⟨q0, q1, q2, q3, q4, q5, qf⟩ := hP.six
  have H := Lib.hid h
  have HSM := Lib.hid hs
  have F := Lib.hid F0
  clear F0 h hs
  go_enter Try.func19, Try.ntmps19
  go_wp2_with (first
      | (go_at_call 34
         refine (implValid_any lo P Av Ax As Ap Ab cv cx cs cp cb _ HSM.out (H.out.below hB (Nat.le_refl _))).mono ?_
         rintro e w1 ⟨r, rfl, hr, hb⟩
         obtain rfl : r = false := by cases r with | false => rfl | true => exact absurd (hr.out.1 rfl) F.out
         clear q0 q1 q2 q3 q4 q5 qf hr
         replace hP := hP.below hb hP.lt
         replace hB := hB.trans (hb.mono hB.size)
         clear hb
         obtain ⟨q0, q1, q2, q3, q4, q5, qf⟩ := hP.six))
  go_ret2
  exact ⟨rfl, hB⟩

set_option maxRecDepth 100000 in
set_option maxHeartbeats 12800000 in
theorem implRec_any2 (lo : Nat) (P : Prg) (Av Ax As Ap Ab : Option Addr) (cv cx cs cp cb : Nat) (m : Int) (w : World) (hs : P.small) (h : PgAt lo w Av Ax As Ap Ab P) (F0 : PgOk P) (G0 : ¬ (0 ≤ m ∧ m < (P.np : Int))) :
    Calls Try.prog 19 #[.agg #[.slice Av P.nv cv, .slice Ax P.nx cx, .slice As P.ns cs, .slice Ap P.np cp, .slice Ab P.nb cb, .int .i64 P.fuel], .int .i64 m] w fun e w' => e = .returned (.tuple #[.bool false, .bool false]) ∧ Below w.heap.size w w' := by
  have hP := Box.new w 37 #[.slice Av P.nv cv, .slice Ax P.nx cx, .slice As P.ns cs, .slice Ap P.np cp, .slice Ab P.nb cb, .int .i64 P.fuel]
  have hB := (Below.refl w.heap.size w).alloc (Nat.le_refl _) (.cells #[.slice Av P.nv cv, .slice Ax P.nx cx, .slice As P.ns cs, .slice Ap P.np cp, .slice Ab P.nb cb, .int .i64 P.fuel] 37)
  obtain ⟨q0, q1, q2, q3, q4, q5, qf⟩ := hP.six
  have H := Lib.hid h
  have HSM := Lib.hid hs
  have CN : Hid (∀ W, _) := Lib.hid fun W => idx_any m (P.np : Int) W
  have hd : decide ((0 : Int) ≤ m ∧ m < (P.np : Int)) = false := decide_eq_false (by omega)
  rw [hd] at CN
  have F := Lib.hid F0
  clear F0 h hs hd G0
  go_enter Try.func19, Try.ntmps19
  go_wp2_with (first
      | (go_at_call 34
         refine (implValid_any lo P Av Ax As Ap Ab cv cx cs cp cb _ HSM.out (H.out.below hB (Nat.le_refl _))).mono ?_
         rintro e w1 ⟨r, rfl, hr, hb⟩
         obtain rfl : r = true := hr.out.2 F.out
         clear q0 q1 q2 q3 q4 q5 qf hr
         replace hP := hP.below hb hP.lt
         replace hB := hB.trans (hb.mono hB.size)
         clear hb
         obtain ⟨q0, q1, q2, q3, q4, q5, qf⟩ := hP.six)
      | (go_at_call 35
         refine (CN.out _).mono ?_
         rintro e w2 ⟨rfl, rfl⟩))
  go_ret2
  exact ⟨rfl, hB⟩

set_option maxRecDepth 100000 in
set_option maxHeartbeats 12800000 in
theorem implRec_any3 (lo : Nat) (P : Prg) (Av Ax As Ap Ab : Option Addr) (cv cx cs cp cb : Nat) (m : Int) (w : World) (hs : P.small) (h : PgAt lo w Av Ax As Ap Ab P) (F0 : PgOk P) (G0 : 0 ≤ m ∧ m < (P.np : Int)) :
    Calls Try.prog 19 #[.agg #[.slice Av P.nv cv, .slice Ax P.nx cx, .slice As P.ns cs, .slice Ap P.np cp, .slice Ab P.nb cb, .int .i64 P.fuel], .int .i64 m] w fun e w' => e = .returned (.tuple #[.bool (acc (gr P) m.toNat P.np m.toNat), .bool true]) ∧ Below w.heap.size w w' := by
  have hP := Box.new w 37 #[.slice Av P.nv cv, .slice Ax P.nx cx, .slice As P.ns cs, .slice Ap P.np cp, .slice Ab P.nb cb, .int .i64 P.fuel]
  have hB := (Below.refl w.heap.size w).alloc (Nat.le_refl _) (.cells #[.slice Av P.nv cv, .slice Ax P.nx cx, .slice As P.ns cs, .slice Ap P.np cp, .slice Ab P.nb cb, .int .i64 P.fuel] 37)
  obtain ⟨q0, q1, q2, q3, q4, q5, qf⟩ := hP.six
  have H := Lib.hid h
  have HSM := Lib.hid hs
  have CN : Hid (∀ W, _) := Lib.hid fun W => idx_any m (P.np : Int) W
  have hd : decide ((0 : Int) ≤ m ∧ m < (P.np : Int)) = true := decide_eq_true G0
  rw [hd] at CN
  have F := Lib.hid F0
  have hnp : P.np ≤ 3 := F0.2.2.1.2
  obtain ⟨p, rfl⟩ : ∃ p : Nat, m = (p : Int) := ⟨m.toNat, by omega⟩
  rw [Int.toNat_natCast]
  have hp : p < P.np := by omega
  have hpi : (p : Int) < ((P.np + 1 : Nat) : Int) := by omega
  have CG : Hid (∀ W, Below w.heap.size w W → _) := Lib.hid fun W (hw : Below w.heap.size w W) => implGraph_any lo P Av Ax As Ap Ab cv cx cs cp cb W HSM.out F.out.w (H.out.below hw (Nat.le_refl _))
  have HC : Hid (∀ b : Bool, (b = true ↔ ∃ i, i < P.np ∧ rch (gr P) p i p = true) → acc (gr P) p P.np p = b) := Lib.hid fun b hb => Bool.eq_iff_iff.2 ((cyc_iff hnp hp (fun q j hj => gr_lt P q j hj)).trans hb.symm)
  clear F0 h hs hd G0
  go_enter Try.func19, Try.ntmps19
  go_upto_region 4 with (first
      | (go_at_call 34
         refine (implValid_any lo P Av Ax As Ap Ab cv cx cs cp cb _ HSM.out (H.out.below hB (Nat.le_refl _))).mono ?_
         rintro e w1 ⟨r, rfl, hr, hb⟩
         obtain rfl : r = true := hr.out.2 F.out
         clear q0 q1 q2 q3 q4 q5 qf hr
         replace hP := hP.below hb hP.lt
         replace hB := hB.trans (hb.mono hB.size)
         clear hb
         obtain ⟨q0, q1, q2, q3, q4, q5, qf⟩ := hP.six)
      | (go_at_call 35
         refine (CN.out _).mono ?_
         rintro e w2 ⟨rfl, rfl⟩)
      | (go_at_call 44
         refine (CG.out _ hB).mono ?_
         rintro e w3 ⟨gv, rfl, hg, hb⟩
         have hz1 := hB.size
         clear q0 q1 q2 q3 q4 q5 qf
         replace hP := hP.below hb hP.lt
         replace hB := hB.trans (hb.mono hB.size)
         clear hb
         obtain ⟨q0, q1, q2, q3, q4, q5, qf⟩ := hP.six))
  rename World => w3
  obtain ⟨g, cap, A, c, rfl, hgl, s0, hrow⟩ := hg.row (show p < P.np + 1 by omega)
  have hps := hP.lt
  have hx0 := SetOf.ups (gr P p)
  have hl0 := ups_le (gr P p) 3
  have hls0 := (hrow.open)
  obtain ⟨A1, c1, e1, _, hls⟩ := hls0
  injection e1 with e1 _ e3
  subst e1 e3
  obtain ⟨xs0, hxs0⟩ : ∃ xs0, xs0 = ups (gr P p) 3 := ⟨_, rfl⟩
  rw [← hxs0] at s0 hx0 hl0 hls
  have HG := Lib.hid hg
  clear hxs0 hrow hg
  go_wp2_with fail
  clear s0
  go_loopg [7, 28] P.np (fun q rv iv wr => ∃ (k : Nat) (A : Option Addr) (c l : Nat) (xs : List Int), k + q = P.np ∧ iv = .int .i64 (k : Nat) ∧ rv = .slice A xs.length c ∧ LsAt l wr A xs ∧ Hid (SetOf xs (rch (gr P) p k)) ∧ Hid (xs.length ≤ bnd k) ∧ Hid (∀ i, i < k → rch (gr P) p i p = false) ∧ Below w3.heap.size w3 wr)
  case atStart => exact ⟨0, _, _, _, xs0, by omega, rfl, rfl, hls, Lib.hid hx0, Lib.hid hl0, Lib.hid fun i hi => absurd hi (Nat.not_lt_zero _), Below.refl _ _⟩
  case round =>
    rename World => w4
    obtain ⟨k, A, c, l, xs, hk, rfl, rfl, hls, hx, hl, hno, hbel⟩ := hrel
    by_cases hk0 : k < P.np
    · have hkb := bnd_le k (by omega)
      have hl2 := hl.out
      have CC := Lib.hid (contains_any l c A xs.length (fun j => xs.getD j 0) (p : Int) w4 (by omega) hls)
      have hiff := hx.out.has (show p < 3 by omega)
      cases hr : rch (gr P) p k p with
      | true =>
        have HE := Lib.hid (hiff.2 hr)
        have HA := Lib.hid (HC.out true (by
          constructor
          · intro _; exact ⟨k, hk0, hr⟩
          · intro _; rfl))
        clear hiff hr hl2
        go_wp2_with (go_at_call 55; refine CC.out.mono ?_; rintro e w5 ⟨r, rfl, hr, hb⟩; obtain rfl : r = true := hr.out.2 HE.out)
        go_ret2
        exact ⟨by rw [HA.out]; rfl, (hB.trans (hbel.mono hB.size)).trans (hb.mono (hB.trans (hbel.mono hB.size)).size)⟩
      | false =>
        have HE : Hid (¬ ∃ j, j < xs.length ∧ xs.getD j 0 = (p : Int)) := Lib.hid fun z => by rw [hiff.1 z] at hr; cases hr
        have HNO : Hid (∀ i, i < k + 1 → rch (gr P) p i p = false) := Lib.hid fun i hi => by
          by_cases e : i < k
          · exact hno.out i e
          · obtain rfl : i = k := by omega
            exact hr
        have CB : Hid (∀ W, Below w4.heap.size w4 W → _) := Lib.hid fun W (hw : Below w4.heap.size w4 W) => calledBy_any w.heap.size l c P (.slice (some ⟨g, 0, none⟩) (P.np + 1) cap) A xs W (by have := hl.out; omega) (fun z hz => by
          obtain ⟨j, hj, hs, rfl⟩ := (hx.out z).1 hz
          have : j < P.np := by
            cases k with
            | zero => exact gr_lt P p j hs
            | succ k =>
              have hs2 : stp (gr P) (rch (gr P) p k) j = true := hs
              simp only [stp, Bool.or_eq_true, Bool.and_eq_true] at hs2
              rcases hs2 with (⟨_, b⟩ | ⟨_, b⟩) | ⟨_, b⟩
              · exact gr_lt P _ j b
              · exact gr_lt P _ j b
              · exact gr_lt P _ j b
          omega) (((HG.out.below (hbel) (Nat.le_refl _)).below hw (Nat.le_refl _)).lowG hz1) (hls.below hw (Nat.le_refl _))
        clear hiff hr hl2
        go_wp2_with (first
          | (go_at_call 55; refine CC.out.mono ?_; rintro e w5 ⟨r, rfl, hr, hb⟩; obtain rfl : r = false := (by cases r with | false => rfl | true => exact absurd (hr.out.1 rfl) HE.out))
          | (go_at_call 56
             refine (CB.out _ hb).mono ?_
             rintro e w6 ⟨v6, rfl, ho6, hb6⟩
             obtain ⟨A6, c6, rfl, _, hls6⟩ := ho6.open))
        go_roundg (gk - 1)
        case rel => exact ⟨k + 1, _, _, _, flP P xs, by omega, by go_num, rfl, hls6, Lib.hid hx.out.fl, Lib.hid (by have := flP_le P xs; have := hl.out; rw [bnd_succ]; omega), HNO, (hbel.trans (hb.mono hbel.size)).trans (hb6.mono (hbel.trans (hb.mono hbel.size)).size)⟩
        case measure => omega
    · obtain rfl : k = P.np := by omega
      have HA := Lib.hid (HC.out false (by
        constructor
        · intro z; cases z
        · rintro ⟨i, hi, hr⟩; rw [hno.out i hi] at hr; cases hr))
      go_wp2_with fail
      go_ret2
      exact ⟨by rw [HA.out]; rfl, hB.trans (hbel.mono hB.size)⟩

theorem implRec_any (lo : Nat) (P : Prg) (Av Ax As Ap Ab : Option Addr) (cv cx cs cp cb : Nat) (m : Int) (w : World) (hs : P.small) (h : PgAt lo w Av Ax As Ap Ab P) :
    Calls Try.prog 19 #[.agg #[.slice Av P.nv cv, .slice Ax P.nx cx, .slice As P.ns cs, .slice Ap P.np cp, .slice Ab P.nb cb, .int .i64 P.fuel], .int .i64 m] w fun e w' => e = .returned (.tuple #[.bool (recA P m), .bool (recB P m)]) ∧ Below w.heap.size w w' := by
  by_cases F0 : PgOk P
  · by_cases G0 : 0 ≤ m ∧ m < (P.np : Int)
    · have hy := rec_yes (P := P) (m := m) ⟨F0, G0⟩
      rw [hy.1, hy.2]
      exact implRec_any3 lo P Av Ax As Ap Ab cv cx cs cp cb m w hs h F0 G0
    · have hy := rec_no (P := P) (m := m) (fun z => G0 z.2)
      rw [hy.1, hy.2]
      exact implRec_any2 lo P Av Ax As Ap Ab cv cx cs cp cb m w hs h F0 G0
  · have hy := rec_no (P := P) (m := m) (fun z => F0 z.1)
    rw [hy.1, hy.2]
    exact implRec_any1 lo P Av Ax As Ap Ab cv cx cs cp cb m w hs h F0

end Go.Proofs.Ytdeilceakhgjlaa
