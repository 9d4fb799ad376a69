/-
  CountPaths: the model's and the program's. (Written by gen_pgcn.py.)
-/
import Derived.Test.YtcdgbjklfmlhkaaPgCn5
import Derived.Test.YtcdgbjklfmlhkaaPgVi
namespace Go.Proofs.Ytcdgbjklfmlhkaa
open Go.RowKit Num

/-- The bound of a program. -/
def pgN (P : Prg) : Int := blkV (pD P (pF P P.fuel.toNat) P.ns) P.bd P.nb
open Classical in
/-- The answer. -/
noncomputable def cnU (P : Prg) : Int := if PgOk P ∧ pgN P ≤ 1000000 then pgN P else 0
open Classical in
noncomputable def cnV (P : Prg) : Bool := if PgOk P ∧ pgN P ≤ 1000000 then true else false
theorem cn_no {P : Prg} (h : ¬ (PgOk P ∧ pgN P ≤ 1000000)) : cnU P = 0 ∧ cnV P = false := ⟨if_neg h, if_neg h⟩
theorem cn_yes {P : Prg} (h : PgOk P ∧ pgN P ≤ 1000000) : cnU P = pgN P ∧ cnV P = true := ⟨if_pos h, if_pos h⟩

theorem scS_all (P : Prg) (hs : P.small) (hok : ∀ j, j < P.ns → StOk P (P.st j)) (hbl : BlocksOk P) : ∀ f, f ≤ 3 → ∀ d, SCS P d f := by
  intro f
  induction f using Nat.strongRecOn with
  | _ f ih =>
    intro hf d
    induction d with
    | zero =>
      intro lo i Av Ax As Ap Ab A3 A4 A5 cv cx cs cp cb c3 c4 c5 w hp hi hd
      omega
    | succ d ihd => exact stS_of P hs hok hbl d f hf (blkS_of P d f ihd) (fun g hg => blkS_of P P.ns g (ih g (by omega) (by omega) P.ns))
theorem cbS_any (lo : Nat) (P : Prg) (Av Ax As Ap Ab : Option Addr) (cv cx cs cp cb : Nat) (w : World) (hs : P.small) (F : PgOk P) (h : PgAt lo w Av Ax As Ap Ab P) :
    Calls Try.prog 73 #[.agg #[.slice Av P.nv cv, .slice Ax P.nx cx, .slice As P.ns cs, .slice Ap P.np cp, .slice Ab P.nb cb, .int .i64 P.fuel], .slice Ab P.nb cb, .int .i64 P.fuel] w fun e w' => e = .returned (.int .i64 (pgN P)) ∧ Below w.heap.size w w' := by
  obtain ⟨h1, h2, h3, h4, ⟨h5, h6⟩, h7, h8⟩ := F
  obtain ⟨f, hf⟩ : ∃ f : Nat, P.fuel = (f : Int) := ⟨P.fuel.toNat, by omega⟩
  have hft : P.fuel.toNat = f := by omega
  have := blkS_of P P.ns f (scS_all P hs h7 h8 f (by omega) P.ns) lo P.nb P.bd Av Ax As Ap Ab Ab cv cx cs cp cb cb w h hs.nb (fun j hj => by have := h8.1 j hj; omega) h.b
  rw [← hf] at this
  rw [pgN, hft]
  exact this

set_option maxRecDepth 100000 in
set_option maxHeartbeats 3200000 in
theorem specCn_any (lo : Nat) (P : Prg) (Av Ax As Ap Ab : Option Addr) (cv cx cs cp cb : Nat) (w : World) (hs : P.small) (hcv : P.nv ≤ cv) (hcp : P.np ≤ cp) (h : PgAt lo w Av Ax As Ap Ab P) :
    Calls Try.prog 26 #[.agg #[.slice Av P.nv cv, .slice Ax P.nx cx, .slice As P.ns cs, .slice Ap P.np cp, .slice Ab P.nb cb, .int .i64 P.fuel]] w fun e w' => e = .returned (.tuple #[.int .i64 (cnU P), .bool (cnV P)]) ∧ Below w.heap.size w w' := by
  have hP := Box.new w 37 #[.slice Av P.nv cv, .slice Ax P.nx cx, .slice As P.ns cs, .slice Ap P.np cp, .slice Ab P.nb cb, .int .i64 P.fuel]
  have hB := (Below.refl w.heap.size w).alloc (Nat.le_refl _) (.cells #[.slice Av P.nv cv, .slice Ax P.nx cx, .slice As P.ns cs, .slice Ap P.np cp, .slice Ab P.nb cb, .int .i64 P.fuel] 37)
  obtain ⟨q0, q1, q2, q3, q4, q5, qf⟩ := hP.six
  have H := Lib.hid h
  have HSM := Lib.hid hs
  clear h hs
  by_cases hV : pgN P ≤ 1000000
  · have e0 : decide ((1000000 : Int) < pgN P) = false := decide_eq_false (by omega)
    have HV := Lib.hid hV
    clear hV
    go_enter Try.func26, Try.ntmps26
    go_wp2_with (first
      | (go_at_call 46
         refine (specVal_any lo P Av Ax As Ap Ab cv cx cs cp cb _ HSM.out hcv hcp (H.out.below hB (Nat.le_refl _))).mono ?_
         rintro e w1 ⟨r, rfl, hr, hb⟩
         clear q0 q1 q2 q3 q4 q5 qf
         replace hP := hP.below hb hP.lt
         replace hB := hB.trans (hb.mono hB.size)
         clear hb
         obtain ⟨q0, q1, q2, q3, q4, q5, qf⟩ := hP.six)
      | (go_at_call 73
         have F := hr.out.1 (not_ff (by assumption))
         refine (cbS_any lo P Av Ax As Ap Ab cv cx cs cp cb _ HSM.out F (H.out.below hB (Nat.le_refl _))).mono ?_
         rintro e w2 ⟨rfl, hb⟩
         replace hB := hB.trans (hb.mono hB.size)
         clear hb))
    all_goals go_ret2
    · have hn := cn_no (P := P) (fun h => absurd (hr.out.2 h.1) (not_tt (by assumption)))
      exact ⟨by rw [hn.1, hn.2]; rfl, hB⟩
    · have hy := cn_yes (P := P) ⟨F, HV.out⟩
      exact ⟨by rw [hy.1, hy.2]; rfl, hB⟩
  · have e0 : decide ((1000000 : Int) < pgN P) = true := decide_eq_true (by omega)
    have HV := Lib.hid hV
    clear hV
    have hn := cn_no (P := P) (fun h => HV.out h.2)
    rw [hn.1, hn.2]
    clear hn
    go_enter Try.func26, Try.ntmps26
    go_wp2_with (first
      | (go_at_call 46
         refine (specVal_any lo P Av Ax As Ap Ab cv cx cs cp cb _ HSM.out hcv hcp (H.out.below hB (Nat.le_refl _))).mono ?_
         rintro e w1 ⟨r, rfl, hr, hb⟩
         clear q0 q1 q2 q3 q4 q5 qf
         replace hP := hP.below hb hP.lt
         replace hB := hB.trans (hb.mono hB.size)
         clear hb
         obtain ⟨q0, q1, q2, q3, q4, q5, qf⟩ := hP.six)
      | (go_at_call 73
         have F := hr.out.1 (not_ff (by assumption))
         refine (cbS_any lo P Av Ax As Ap Ab cv cx cs cp cb _ HSM.out F (H.out.below hB (Nat.le_refl _))).mono ?_
         rintro e w2 ⟨rfl, hb⟩
         replace hB := hB.trans (hb.mono hB.size)
         clear hb))
    all_goals go_ret2
    all_goals exact ⟨rfl, hB⟩

theorem scI_all (P : Prg) (hs : P.small) (hok : ∀ j, j < P.ns → StOk P (P.st j)) (hbl : BlocksOk P) : ∀ f, f ≤ 3 → ∀ d, SCI P d f := by
  intro f
  induction f using Nat.strongRecOn with
  | _ f ih =>
    intro hf d
    induction d with
    | zero =>
      intro lo i Av Ax As Ap Ab A3 A4 A5 cv cx cs cp cb c3 c4 c5 w hp hi hd
      omega
    | succ d ihd => exact stI_of P hs hok hbl d f hf (blkI_of P d f ihd) (fun g hg => blkI_of P P.ns g (ih g (by omega) (by omega) P.ns))
theorem cbI_any (lo : Nat) (P : Prg) (Av Ax As Ap Ab : Option Addr) (cv cx cs cp cb : Nat) (w : World) (hs : P.small) (F : PgOk P) (h : PgAt lo w Av Ax As Ap Ab P) :
    Calls Try.prog 74 #[.agg #[.slice Av P.nv cv, .slice Ax P.nx cx, .slice As P.ns cs, .slice Ap P.np cp, .slice Ab P.nb cb, .int .i64 P.fuel], .slice Ab P.nb cb, .int .i64 P.fuel] w fun e w' => e = .returned (.int .i64 (pgN P)) ∧ Below w.heap.size w w' := by
  obtain ⟨h1, h2, h3, h4, ⟨h5, h6⟩, h7, h8⟩ := F
  obtain ⟨f, hf⟩ : ∃ f : Nat, P.fuel = (f : Int) := ⟨P.fuel.toNat, by omega⟩
  have hft : P.fuel.toNat = f := by omega
  have := blkI_of P P.ns f (scI_all P hs h7 h8 f (by omega) P.ns) lo P.nb P.bd Av Ax As Ap Ab Ab cv cx cs cp cb cb w h hs.nb (fun j hj => by have := h8.1 j hj; omega) h.b
  rw [← hf] at this
  rw [pgN, hft]
  exact this

set_option maxRecDepth 100000 in
set_option maxHeartbeats 3200000 in
theorem implCn_any (lo : Nat) (P : Prg) (Av Ax As Ap Ab : Option Addr) (cv cx cs cp cb : Nat) (w : World) (hs : P.small) (h : PgAt lo w Av Ax As Ap Ab P) :
    Calls Try.prog 27 #[.agg #[.slice Av P.nv cv, .slice Ax P.nx cx, .slice As P.ns cs, .slice Ap P.np cp, .slice Ab P.nb cb, .int .i64 P.fuel]] w fun e w' => e = .returned (.tuple #[.int .i64 (cnU P), .bool (cnV P)]) ∧ Below w.heap.size w w' := by
  have hP := Box.new w 37 #[.slice Av P.nv cv, .slice Ax P.nx cx, .slice As P.ns cs, .slice Ap P.np cp, .slice Ab P.nb cb, .int .i64 P.fuel]
  have hB := (Below.refl w.heap.size w).alloc (Nat.le_refl _) (.cells #[.slice Av P.nv cv, .slice Ax P.nx cx, .slice As P.ns cs, .slice Ap P.np cp, .slice Ab P.nb cb, .int .i64 P.fuel] 37)
  obtain ⟨q0, q1, q2, q3, q4, q5, qf⟩ := hP.six
  have H := Lib.hid h
  have HSM := Lib.hid hs
  clear h hs
  by_cases hV : pgN P ≤ 1000000
  · have e0 : decide ((1000000 : Int) < pgN P) = false := decide_eq_false (by omega)
    have HV := Lib.hid hV
    clear hV
    go_enter Try.func27, Try.ntmps27
    go_wp2_with (first
      | (go_at_call 54
         refine (implValid_any lo P Av Ax As Ap Ab cv cx cs cp cb _ HSM.out (H.out.below hB (Nat.le_refl _))).mono ?_
         rintro e w1 ⟨r, rfl, hr, hb⟩
         clear q0 q1 q2 q3 q4 q5 qf
         replace hP := hP.below hb hP.lt
         replace hB := hB.trans (hb.mono hB.size)
         clear hb
         obtain ⟨q0, q1, q2, q3, q4, q5, qf⟩ := hP.six)
      | (go_at_call 74
         have F := hr.out.1 (not_ff (by assumption))
         refine (cbI_any lo P Av Ax As Ap Ab cv cx cs cp cb _ HSM.out F (H.out.below hB (Nat.le_refl _))).mono ?_
         rintro e w2 ⟨rfl, hb⟩
         replace hB := hB.trans (hb.mono hB.size)
         clear hb))
    all_goals go_ret2
    · have hn := cn_no (P := P) (fun h => absurd (hr.out.2 h.1) (not_tt (by assumption)))
      exact ⟨by rw [hn.1, hn.2]; rfl, hB⟩
    · have hy := cn_yes (P := P) ⟨F, HV.out⟩
      exact ⟨by rw [hy.1, hy.2]; rfl, hB⟩
  · have e0 : decide ((1000000 : Int) < pgN P) = true := decide_eq_true (by omega)
    have HV := Lib.hid hV
    clear hV
    have hn := cn_no (P := P) (fun h => HV.out h.2)
    rw [hn.1, hn.2]
    clear hn
    go_enter Try.func27, Try.ntmps27
    go_wp2_with (first
      | (go_at_call 54
         refine (implValid_any lo P Av Ax As Ap Ab cv cx cs cp cb _ HSM.out (H.out.below hB (Nat.le_refl _))).mono ?_
         rintro e w1 ⟨r, rfl, hr, hb⟩
         clear q0 q1 q2 q3 q4 q5 qf
         replace hP := hP.below hb hP.lt
         replace hB := hB.trans (hb.mono hB.size)
         clear hb
         obtain ⟨q0, q1, q2, q3, q4, q5, qf⟩ := hP.six)
      | (go_at_call 74
         have F := hr.out.1 (not_ff (by assumption))
         refine (cbI_any lo P Av Ax As Ap Ab cv cx cs cp cb _ HSM.out F (H.out.below hB (Nat.le_refl _))).mono ?_
         rintro e w2 ⟨rfl, hb⟩
         replace hB := hB.trans (hb.mono hB.size)
         clear hb))
    all_goals go_ret2
    all_goals exact ⟨rfl, hB⟩

end Go.Proofs.Ytcdgbjklfmlhkaa
