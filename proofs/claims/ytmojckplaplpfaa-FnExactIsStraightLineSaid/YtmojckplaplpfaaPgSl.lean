/-
  Straight-line programs: the model's test and the program's. (Written by gen_pgsl.py.)
-/
import Derived.Test.YtmojckplaplpfaaPgVi
namespace Go.Proofs.Ytmojckplaplpfaa
open Go.RowKit Num

/-- A loop or a call. -/
def Loopy (s : Stm) : Prop := s.kind = 6 ∨ s.kind = 7 ∨ s.kind = 8

theorem loopy_cases (s : Stm) : ((s.kind == 6) = true ∧ Loopy s) ∨ ((s.kind == 6) = false ∧ (s.kind == 7) = true ∧ Loopy s) ∨ ((s.kind == 6) = false ∧ (s.kind == 7) = false ∧ (s.kind == 8) = true ∧ Loopy s) ∨ ((s.kind == 6) = false ∧ (s.kind == 7) = false ∧ (s.kind == 8) = false ∧ ¬ Loopy s) := by
  by_cases h6 : s.kind = 6
  · exact .inl ⟨by rw [h6]; rfl, .inl h6⟩
  · by_cases h7 : s.kind = 7
    · exact .inr (.inl ⟨by rw [h7]; rfl, by rw [h7]; rfl, .inr (.inl h7)⟩)
    · by_cases h8 : s.kind = 8
      · exact .inr (.inr (.inl ⟨by rw [h8]; rfl, by rw [h8]; rfl, by rw [h8]; rfl, .inr (.inr h8)⟩))
      · exact .inr (.inr (.inr ⟨beq_eq_false_iff_ne.2 h6, beq_eq_false_iff_ne.2 h7, beq_eq_false_iff_ne.2 h8, fun h => by rcases h with h | h | h <;> contradiction⟩))

set_option maxRecDepth 100000 in
set_option maxHeartbeats 1600000 in
theorem loopy_any (s : Stm) (A3 A4 A5 : Option Addr) (c3 c4 c5 : Nat) (w : World) :
    Calls Try.prog 70 #[.agg #[.int .i64 s.kind, .int .i64 s.var, .int .i64 s.ex, .slice A3 s.nc c3, .slice A4 s.nt c4, .slice A5 s.ne c5, .int .i64 s.times, .int .i64 s.proc]] w (Yn (Loopy s) w) := by
  have hP := Box.new w 96 #[.int .i64 s.kind, .int .i64 s.var, .int .i64 s.ex, .slice A3 s.nc c3, .slice A4 s.nt c4, .slice A5 s.ne c5, .int .i64 s.times, .int .i64 s.proc]
  have hB := (Below.refl w.heap.size w).alloc (Nat.le_refl _) (.cells #[.int .i64 s.kind, .int .i64 s.var, .int .i64 s.ex, .slice A3 s.nc c3, .slice A4 s.nt c4, .slice A5 s.ne c5, .int .i64 s.times, .int .i64 s.proc] 96)
  obtain ⟨q0, q1, q2, q3, q4, q5, q6, q7, qf⟩ := hP.eight
  rcases loopy_cases s with ⟨e6, hl⟩ | ⟨e6, e7, hl⟩ | ⟨e6, e7, e8, hl⟩ | ⟨e6, e7, e8, hl⟩
  all_goals have HL := Lib.hid hl
  all_goals clear hl
  all_goals go_enter Try.func70, Try.ntmps70
  all_goals go_wp2_with fail
  all_goals go_ret
  all_goals first
    | exact Yn.yes HL.out hB
    | exact Yn.no HL.out hB

set_option maxRecDepth 100000 in
set_option maxHeartbeats 1600000 in
theorem idxLoopy_any (lo : Nat) (A0 : Option Addr) (n c : Nat) (f : Nat → Stm) (w : World) (hn : n ≤ 1048576) (h0 : StAt lo w A0 n f) :
    Calls Try.prog 115 #[.slice A0 n c, .func (.func 70) #[] #[]] w (IdxPost (∃ m, m < n ∧ Loopy (f m)) w) := by
  have H0 := Lib.hid h0; clear h0
  go_enter Try.func115, Try.ntmps115
  go_wp2_with fail
  go_loopg [8] n (fun q iv wr => ∃ k : Nat, k + q = n ∧ iv = .int .i64 (k : Nat) ∧ Hid (∀ j, j < k → ¬ Loopy (f j)) ∧ Below w.heap.size w wr)
  case atStart => exact ⟨0, by omega, rfl, Lib.hid fun j h => by omega, Below.refl _ _⟩
  case round =>
    obtain ⟨k, hk, rfl, hq, hbel⟩ := hrel
    by_cases hk0 : k < n
    · obtain ⟨b, off, A3, c3, A4, c4, A5, c5, rfl, hb, r0, r1, r2, r3, r4, r5, r6, r7, g3, g4, g5⟩ := (H0.out.below hbel (Nat.le_refl _)).at_ hk0
      clear g3 g4 g5
      go_wp2_with (go_at_call 70; refine (loopy_any (f k) A3 A4 A5 c3 c4 c5 _).mono ?_; rintro e w1 ⟨r, rfl, hr, hb1⟩; have hB := hbel.trans (hb1.mono hbel.size); clear hb1)
      all_goals first
        | (go_ret
           exact ⟨(k : Int), rfl, Lib.hid ⟨fun _ => ⟨k, hk0, hr.out.1 (by assumption)⟩, fun _ => by omega⟩, hB⟩)
        | (have HE : Hid (r = false) := Lib.hid (by first | assumption | simpa using (by assumption : ¬ r = true))
           go_roundg (gk - 1)
           case rel => exact ⟨k + 1, by omega, by go_num, Lib.hid fun j hj => by
             by_cases hjk : j < k
             · exact hq.out j hjk
             · obtain rfl : j = k := by omega
               exact fun h => absurd (hr.out.2 h) (by rw [HE.out]; simp), hB⟩
           case measure => omega)
    · obtain rfl : k = n := by omega
      go_wp2_with fail
      go_ret
      exact ⟨-1, rfl, Lib.hid ⟨fun h => by omega, fun ⟨j, hj, h⟩ => absurd h (hq.out j hj)⟩, hbel⟩

set_option maxRecDepth 100000 in
theorem hasLoopy_any (lo : Nat) (A0 : Option Addr) (n c : Nat) (f : Nat → Stm) (w : World) (hn : n ≤ 1048576) (h0 : StAt lo w A0 n f) :
    Calls Try.prog 69 #[.slice A0 n c, .func (.func 70) #[] #[]] w (Yn (∃ m, m < n ∧ Loopy (f m)) w) := by
  have C := Lib.hid (idxLoopy_any lo A0 n c f w hn h0)
  clear h0
  go_enter Try.func69, Try.ntmps69
  go_wp2_with (go_at_call 115; refine C.out.mono ?_; rintro e w1 ⟨r, rfl, hr, hb⟩)
  go_ret
  exact ⟨_, rfl, Lib.hid ⟨fun h => hr.out.1 (by simpa using h), fun h => by simpa using hr.out.2 h⟩, hb⟩

/-- The answer: is it straight, is it valid. -/
def SlPost (P : Prg) (w : World) (e : Ending) (w' : World) : Prop :=
  ∃ u v : Bool, e = .returned (.tuple #[.bool u, .bool v]) ∧ Hid (u = true ↔ PgOk P ∧ ¬ ∃ m, m < P.ns ∧ Loopy (P.st m)) ∧ Hid (v = true ↔ PgOk P) ∧ Below w.heap.size w w'

theorem SlPost.no {P : Prg} {w w' : World} (h : ¬ PgOk P) (hb : Below w.heap.size w w') : SlPost P w (.returned (.tuple #[.bool false, .bool false])) w' :=
  ⟨false, false, rfl, Lib.hid ⟨fun h' => (by cases h'), fun h' => absurd h'.1 h⟩, Lib.hid ⟨fun h' => (by cases h'), fun h' => absurd h' h⟩, hb⟩
theorem SlPost.ok {P : Prg} {w w' : World} {u : Bool} (h : PgOk P) (hu : u = true ↔ ¬ ∃ m, m < P.ns ∧ Loopy (P.st m)) (hb : Below w.heap.size w w') : SlPost P w (.returned (.tuple #[.bool u, .bool true])) w' :=
  ⟨u, true, rfl, Lib.hid ⟨fun h' => ⟨h, hu.1 h'⟩, fun h' => hu.2 h'.2⟩, Lib.hid ⟨fun _ => h, fun _ => rfl⟩, hb⟩

set_option maxRecDepth 100000 in
set_option maxHeartbeats 3200000 in
theorem implSl_any (lo : Nat) (P : Prg) (Av Ax As Ap Ab : Option Addr) (cv cx cs cp cb : Nat) (w : World) (hs : P.small) (h : PgAt lo w Av Ax As Ap Ab P) :
    Calls Try.prog 29 #[.agg #[.slice Av P.nv cv, .slice Ax P.nx cx, .slice As P.ns cs, .slice Ap P.np cp, .slice Ab P.nb cb, .int .i64 P.fuel]] w (SlPost P w) := by
  have hP := Box.new w 36 #[.slice Av P.nv cv, .slice Ax P.nx cx, .slice As P.ns cs, .slice Ap P.np cp, .slice Ab P.nb cb, .int .i64 P.fuel]
  have hB := (Below.refl w.heap.size w).alloc (Nat.le_refl _) (.cells #[.slice Av P.nv cv, .slice Ax P.nx cx, .slice As P.ns cs, .slice Ap P.np cp, .slice Ab P.nb cb, .int .i64 P.fuel] 36)
  obtain ⟨q0, q1, q2, q3, q4, q5, qf⟩ := hP.six
  have H := Lib.hid h
  have HSM := Lib.hid hs
  have hns := hs.ns
  clear h hs
  go_enter Try.func29, Try.ntmps29
  go_wp2_with (first
    | (go_at_call 13
       refine (implValid_any lo P Av Ax As Ap Ab cv cx cs cp cb _ HSM.out (H.out.below hB (Nat.le_refl _))).mono ?_
       rintro e w1 ⟨r, rfl, hr, hb⟩
       clear q0 q1 q2 q3 q4 q5 qf
       replace hP := hP.below hb hP.lt
       replace hB := hB.trans (hb.mono hB.size)
       clear hb
       obtain ⟨q0, q1, q2, q3, q4, q5, qf⟩ := hP.six)
    | (go_at_call 69
       refine (hasLoopy_any lo As P.ns cs P.st _ hns (H.out.below hB (Nat.le_refl _)).s).mono ?_
       rintro e w2 ⟨r2, rfl, hr2, hb⟩
       replace hB := hB.trans (hb.mono hB.size)))
  all_goals go_ret2
  · exact SlPost.no (fun h => absurd (hr.out.2 h) (not_tt (by assumption))) hB
  · exact SlPost.ok (u := !r2) (hr.out.1 (not_ff (by assumption))) (by rw [← hr2.out]; cases r2 <;> simp) hB

set_option maxRecDepth 100000 in
set_option maxHeartbeats 3200000 in
theorem specSl_any (lo : Nat) (P : Prg) (Av Ax As Ap Ab : Option Addr) (cv cx cs cp cb : Nat) (w : World) (hs : P.small) (hcv : P.nv ≤ cv) (hcp : P.np ≤ cp) (h : PgAt lo w Av Ax As Ap Ab P) :
    Calls Try.prog 28 #[.agg #[.slice Av P.nv cv, .slice Ax P.nx cx, .slice As P.ns cs, .slice Ap P.np cp, .slice Ab P.nb cb, .int .i64 P.fuel]] w (SlPost P w) := by
  have hP := Box.new w 36 #[.slice Av P.nv cv, .slice Ax P.nx cx, .slice As P.ns cs, .slice Ap P.np cp, .slice Ab P.nb cb, .int .i64 P.fuel]
  have hB := (Below.refl w.heap.size w).alloc (Nat.le_refl _) (.cells #[.slice Av P.nv cv, .slice Ax P.nx cx, .slice As P.ns cs, .slice Ap P.np cp, .slice Ab P.nb cb, .int .i64 P.fuel] 36)
  obtain ⟨q0, q1, q2, q3, q4, q5, qf⟩ := hP.six
  have H := Lib.hid h
  have HSM := Lib.hid hs
  have hns := hs.ns
  clear h hs
  go_enter Try.func28, Try.ntmps28
  go_wp2_with (go_at_call 37
               refine (specVal_any lo P Av Ax As Ap Ab cv cx cs cp cb _ HSM.out hcv hcp (H.out.below hB (Nat.le_refl _))).mono ?_
               rintro e w1 ⟨r, rfl, hr, hb⟩
               clear q0 q1 q2 q3 q4 q5 qf
               replace hP := hP.below hb hP.lt
               replace hB := hB.trans (hb.mono hB.size)
               clear hb
               obtain ⟨q0, q1, q2, q3, q4, q5, qf⟩ := hP.six)
  all_goals first
    | (go_ret2
       exact SlPost.no (fun h => absurd (hr.out.2 h) (by first | assumption | exact not_tt (by assumption))) hB)
    | skip
  rename (!r) = false => hopen
  have F := Lib.hid (hr.out.1 (not_ff hopen))
  clear hopen hr
  rename World => w3
  clear q0 q1 q2 q3 q4 q5 qf
  go_loopg [12] P.ns (fun q iv wr => ∃ k : Nat, k + q = P.ns ∧ iv = .int .i64 (k : Nat) ∧ Hid (∀ j, j < k → ¬ Loopy (P.st j)) ∧ Below w3.heap.size w3 wr)
  case atStart => exact ⟨0, by omega, rfl, Lib.hid fun j h => by omega, Below.refl _ _⟩
  case round =>
    rename World => w4
    obtain ⟨k, hk, rfl, hq, hbel⟩ := hrel
    replace hB := hB.trans (hbel.mono hB.size)
    by_cases hk0 : k < P.ns
    · obtain ⟨b, off, A3, c3, A4, c4, A5, c5, rfl, hb, r0, r1, r2, r3, r4, r5, r6, r7, g3, g4, g5⟩ := (H.out.below hB (Nat.le_refl _)).s.at_ hk0
      clear g3 g4 g5
      have hal := (Below.refl w4.heap.size w4).alloc (Nat.le_refl _) (.cells #[.int .i64 (P.st k).kind, .int .i64 (P.st k).var, .int .i64 (P.st k).ex, .slice A3 (P.st k).nc c3, .slice A4 (P.st k).nt c4, .slice A5 (P.st k).ne c5, .int .i64 (P.st k).times, .int .i64 (P.st k).proc] 96)
      have hV8 := Box.new w4 96 #[.int .i64 (P.st k).kind, .int .i64 (P.st k).var, .int .i64 (P.st k).ex, .slice A3 (P.st k).nc c3, .slice A4 (P.st k).nt c4, .slice A5 (P.st k).ne c5, .int .i64 (P.st k).times, .int .i64 (P.st k).proc]
      obtain ⟨v0, v1, v2, v3, v4, v5, v6, v7, vf⟩ := hV8.eight
      rcases loopy_cases (P.st k) with ⟨e6, hl⟩ | ⟨e6, e7, hl⟩ | ⟨e6, e7, e8, hl⟩ | ⟨e6, e7, e8, hl⟩
      all_goals have HL := Lib.hid hl
      all_goals clear hl
      all_goals go_wp2_with fail
      all_goals first
        | (go_ret2
           exact SlPost.ok F.out ⟨fun h => (by cases h), fun h => absurd ⟨k, hk0, HL.out⟩ h⟩ (hB.trans (hal.mono hB.size)))
        | (go_roundg (gk - 1)
           case rel => exact ⟨k + 1, by omega, by go_num, Lib.hid fun j hj => by
             by_cases hjk : j < k
             · exact hq.out j hjk
             · obtain rfl : j = k := by omega
               exact HL.out, hbel.trans (hal.mono hbel.size)⟩
           case measure => omega)
    · obtain rfl : k = P.ns := by omega
      go_wp2_with fail
      go_ret2
      exact SlPost.ok F.out ⟨fun _ ⟨j, hj, h⟩ => absurd h (hq.out j hj), fun _ => rfl⟩ hB

end Go.Proofs.Ytmojckplaplpfaa
