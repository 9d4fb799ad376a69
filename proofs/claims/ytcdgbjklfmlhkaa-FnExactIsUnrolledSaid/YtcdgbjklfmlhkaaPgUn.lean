/-
  Unrolled programs: the model's test and the program's. (Written by gen_pgun.py.)
-/
import Derived.Test.YtcdgbjklfmlhkaaPgVi
namespace Go.Proofs.Ytcdgbjklfmlhkaa
open Go.RowKit Num

/-- A loop or a call. -/
def Loopy (s : Stm) : Prop := s.kind = 6 ∨ s.kind = 7 ∨ s.kind = 8

theorem loopy_cases (s : Stm) : ((s.kind == 6) = true ∧ Loopy s) ∨ ((s.kind == 6) = false ∧ (s.kind == 7) = true ∧ Loopy s) ∨ ((s.kind == 6) = false ∧ (s.kind == 7) = false ∧ (s.kind == 8) = true ∧ Loopy s) ∨ ((s.kind == 6) = false ∧ (s.kind == 7) = false ∧ (s.kind == 8) = false ∧ ¬ Loopy s) := by
  by_cases h6 : s.kind = 6
  · exact .inl ⟨by rw [h6]; rfl, .inl h6⟩
  · by_cases h7 : s.kind = 7
    · exact .inr (.inl ⟨by rw [h7]; rfl, by rw [h7]; rfl, .inr (.inl h7)⟩)
    · by_cases h8 : s.kind = 8
      · exact .inr (.inr (.inl ⟨by rw [h8]; rfl, by rw [h8]; rfl, by rw [h8]; rfl, .inr (.inr h8)⟩))
      · exact .inr (.inr (.inr ⟨beq_eq_false_iff_ne.2 h6, beq_eq_false_iff_ne.2 h7, beq_eq_false_iff_ne.2 h8, fun h => by rcases h with h | h | h <;> contradiction⟩))

set_option maxRecDepth 100000 in
set_option maxHeartbeats 1600000 in
theorem loopy_any (s : Stm) (A3 A4 A5 : Option Addr) (c3 c4 c5 : Nat) (w : World) :
    Calls Try.prog 87 #[.agg #[.int .i64 s.kind, .int .i64 s.var, .int .i64 s.ex, .slice A3 s.nc c3, .slice A4 s.nt c4, .slice A5 s.ne c5, .int .i64 s.times, .int .i64 s.proc]] w (Yn (Loopy s) w) := by
  have hP := Box.new w 110 #[.int .i64 s.kind, .int .i64 s.var, .int .i64 s.ex, .slice A3 s.nc c3, .slice A4 s.nt c4, .slice A5 s.ne c5, .int .i64 s.times, .int .i64 s.proc]
  have hB := (Below.refl w.heap.size w).alloc (Nat.le_refl _) (.cells #[.int .i64 s.kind, .int .i64 s.var, .int .i64 s.ex, .slice A3 s.nc c3, .slice A4 s.nt c4, .slice A5 s.ne c5, .int .i64 s.times, .int .i64 s.proc] 110)
  obtain ⟨q0, q1, q2, q3, q4, q5, q6, q7, qf⟩ := hP.eight
  rcases loopy_cases s with ⟨e6, hl⟩ | ⟨e6, e7, hl⟩ | ⟨e6, e7, e8, hl⟩ | ⟨e6, e7, e8, hl⟩
  all_goals have HL := Lib.hid hl
  all_goals clear hl
  all_goals go_enter Try.func87, Try.ntmps87
  all_goals go_wp2_with fail
  all_goals go_ret
  all_goals first
    | exact Yn.yes HL.out hB
    | exact Yn.no HL.out hB

/-- A check without a block and without times. -/
def Exh (s : Stm) : Prop := s.kind = 7 ∧ s.times = 0 ∧ s.nt = 0
/-- What an unrolled program must not have. -/
def Must (s : Stm) : Prop := Loopy s ∧ ¬ Exh s

theorem exh_cases (s : Stm) : ((s.kind == 7) = false ∧ ¬ Exh s) ∨ ((s.kind == 7) = true ∧ (s.times == 0) = false ∧ ¬ Exh s) ∨ ((s.kind == 7) = true ∧ (s.times == 0) = true ∧ ((s.nt : Int) == 0) = false ∧ ¬ Exh s) ∨ ((s.kind == 7) = true ∧ (s.times == 0) = true ∧ ((s.nt : Int) == 0) = true ∧ Exh s) := by
  by_cases h7 : s.kind = 7
  · by_cases h0 : s.times = 0
    · by_cases hn : s.nt = 0
      · exact .inr (.inr (.inr ⟨by rw [h7]; rfl, by rw [h0]; rfl, by rw [hn]; rfl, h7, h0, hn⟩))
      · exact .inr (.inr (.inl ⟨by rw [h7]; rfl, by rw [h0]; rfl, beq_eq_false_iff_ne.2 (by omega), fun h => hn h.2.2⟩))
    · exact .inr (.inl ⟨by rw [h7]; rfl, beq_eq_false_iff_ne.2 h0, fun h => h0 h.2.1⟩)
  · exact .inl ⟨beq_eq_false_iff_ne.2 h7, fun h => h7 h.1⟩

set_option maxRecDepth 100000 in
set_option maxHeartbeats 1600000 in
theorem specExh_any (s : Stm) (A3 A4 A5 : Option Addr) (c3 c4 c5 : Nat) (w : World) :
    Calls Try.prog 129 #[.agg #[.int .i64 s.kind, .int .i64 s.var, .int .i64 s.ex, .slice A3 s.nc c3, .slice A4 s.nt c4, .slice A5 s.ne c5, .int .i64 s.times, .int .i64 s.proc]] w (Yn (Exh s) w) := by
  have hP := Box.new w 110 #[.int .i64 s.kind, .int .i64 s.var, .int .i64 s.ex, .slice A3 s.nc c3, .slice A4 s.nt c4, .slice A5 s.ne c5, .int .i64 s.times, .int .i64 s.proc]
  have hB := (Below.refl w.heap.size w).alloc (Nat.le_refl _) (.cells #[.int .i64 s.kind, .int .i64 s.var, .int .i64 s.ex, .slice A3 s.nc c3, .slice A4 s.nt c4, .slice A5 s.ne c5, .int .i64 s.times, .int .i64 s.proc] 110)
  obtain ⟨q0, q1, q2, q3, q4, q5, q6, q7, qf⟩ := hP.eight
  rcases exh_cases s with ⟨e7, hl⟩ | ⟨e7, e0, hl⟩ | ⟨e7, e0, en, hl⟩ | ⟨e7, e0, en, hl⟩
  all_goals have HL := Lib.hid hl
  all_goals clear hl
  all_goals go_enter Try.func129, Try.ntmps129
  all_goals go_wp2_with fail
  all_goals go_ret
  all_goals first
    | exact Yn.yes HL.out hB
    | exact Yn.no HL.out hB

set_option maxRecDepth 100000 in
set_option maxHeartbeats 1600000 in
theorem implExh_any (s : Stm) (A3 A4 A5 : Option Addr) (c3 c4 c5 : Nat) (w : World) :
    Calls Try.prog 88 #[.agg #[.int .i64 s.kind, .int .i64 s.var, .int .i64 s.ex, .slice A3 s.nc c3, .slice A4 s.nt c4, .slice A5 s.ne c5, .int .i64 s.times, .int .i64 s.proc]] w (Yn (Exh s) w) := by
  have hP := Box.new w 110 #[.int .i64 s.kind, .int .i64 s.var, .int .i64 s.ex, .slice A3 s.nc c3, .slice A4 s.nt c4, .slice A5 s.ne c5, .int .i64 s.times, .int .i64 s.proc]
  have hB := (Below.refl w.heap.size w).alloc (Nat.le_refl _) (.cells #[.int .i64 s.kind, .int .i64 s.var, .int .i64 s.ex, .slice A3 s.nc c3, .slice A4 s.nt c4, .slice A5 s.ne c5, .int .i64 s.times, .int .i64 s.proc] 110)
  obtain ⟨q0, q1, q2, q3, q4, q5, q6, q7, qf⟩ := hP.eight
  rcases exh_cases s with ⟨e7, hl⟩ | ⟨e7, e0, hl⟩ | ⟨e7, e0, en, hl⟩ | ⟨e7, e0, en, hl⟩
  all_goals have HL := Lib.hid hl
  all_goals clear hl
  all_goals go_enter Try.func88, Try.ntmps88
  all_goals go_wp2_with fail
  all_goals go_ret
  all_goals first
    | exact Yn.yes HL.out hB
    | exact Yn.no HL.out hB

set_option maxRecDepth 100000 in
set_option maxHeartbeats 1600000 in
theorem must_any (s : Stm) (A3 A4 A5 : Option Addr) (c3 c4 c5 : Nat) (w : World) :
    Calls Try.prog 86 #[.agg #[.int .i64 s.kind, .int .i64 s.var, .int .i64 s.ex, .slice A3 s.nc c3, .slice A4 s.nt c4, .slice A5 s.ne c5, .int .i64 s.times, .int .i64 s.proc]] w (Yn (Must s) w) := by
  have hP := Box.new w 110 #[.int .i64 s.kind, .int .i64 s.var, .int .i64 s.ex, .slice A3 s.nc c3, .slice A4 s.nt c4, .slice A5 s.ne c5, .int .i64 s.times, .int .i64 s.proc]
  have hB := (Below.refl w.heap.size w).alloc (Nat.le_refl _) (.cells #[.int .i64 s.kind, .int .i64 s.var, .int .i64 s.ex, .slice A3 s.nc c3, .slice A4 s.nt c4, .slice A5 s.ne c5, .int .i64 s.times, .int .i64 s.proc] 110)
  obtain ⟨q0, q1, q2, q3, q4, q5, q6, q7, qf⟩ := hP.eight
  have CL : Hid (∀ W, _) := Lib.hid fun W => loopy_any s A3 A4 A5 c3 c4 c5 W
  have CX : Hid (∀ W, _) := Lib.hid fun W => implExh_any s A3 A4 A5 c3 c4 c5 W
  by_cases hl : Loopy s
  · have HL := Lib.hid hl
    by_cases hx : Exh s
    · have HX := Lib.hid hx
      clear hl hx
      go_enter Try.func86, Try.ntmps86
      go_wp2_with (first
      | (go_at_call 87
         refine (CL.out _).mono ?_
         rintro e w1 ⟨r, rfl, hr, hb⟩
         obtain rfl : r = true := hr.out.2 HL.out
         replace hP := hP.below hb hP.lt
         replace hB := hB.trans (hb.mono hB.size)
         clear hb q0 q1 q2 q3 q4 q5 q6 q7 qf hr
         obtain ⟨q0, q1, q2, q3, q4, q5, q6, q7, qf⟩ := hP.eight)
      | (go_at_call 88
         refine (CX.out _).mono ?_
         rintro e w2 ⟨r, rfl, hr, hb⟩
         obtain rfl : r = true := hr.out.2 HX.out
         replace hP := hP.below hb hP.lt
         replace hB := hB.trans (hb.mono hB.size)
         clear hb q0 q1 q2 q3 q4 q5 q6 q7 qf hr
         obtain ⟨q0, q1, q2, q3, q4, q5, q6, q7, qf⟩ := hP.eight))
      go_ret
      exact Yn.no (fun h => h.2 HX.out) hB
    · have HX := Lib.hid hx
      clear hl hx
      go_enter Try.func86, Try.ntmps86
      go_wp2_with (first
      | (go_at_call 87
         refine (CL.out _).mono ?_
         rintro e w1 ⟨r, rfl, hr, hb⟩
         obtain rfl : r = true := hr.out.2 HL.out
         replace hP := hP.below hb hP.lt
         replace hB := hB.trans (hb.mono hB.size)
         clear hb q0 q1 q2 q3 q4 q5 q6 q7 qf hr
         obtain ⟨q0, q1, q2, q3, q4, q5, q6, q7, qf⟩ := hP.eight)
      | (go_at_call 88
         refine (CX.out _).mono ?_
         rintro e w2 ⟨r, rfl, hr, hb⟩
         obtain rfl : r = false := by cases r with | false => rfl | true => exact absurd (hr.out.1 rfl) HX.out
         replace hP := hP.below hb hP.lt
         replace hB := hB.trans (hb.mono hB.size)
         clear hb q0 q1 q2 q3 q4 q5 q6 q7 qf hr
         obtain ⟨q0, q1, q2, q3, q4, q5, q6, q7, qf⟩ := hP.eight))
      go_ret
      exact Yn.yes ⟨HL.out, HX.out⟩ hB
  · have HL := Lib.hid hl
    clear hl
    go_enter Try.func86, Try.ntmps86
    go_wp2_with (first
      | (go_at_call 87
         refine (CL.out _).mono ?_
         rintro e w1 ⟨r, rfl, hr, hb⟩
         obtain rfl : r = false := by cases r with | false => rfl | true => exact absurd (hr.out.1 rfl) HL.out
         replace hP := hP.below hb hP.lt
         replace hB := hB.trans (hb.mono hB.size)
         clear hb q0 q1 q2 q3 q4 q5 q6 q7 qf hr
         obtain ⟨q0, q1, q2, q3, q4, q5, q6, q7, qf⟩ := hP.eight))
    go_ret
    exact Yn.no (fun h => HL.out h.1) hB

set_option maxRecDepth 100000 in
set_option maxHeartbeats 1600000 in
theorem idxMust_any (lo : Nat) (A0 : Option Addr) (n c : Nat) (f : Nat → Stm) (w : World) (hn : n ≤ 1048576) (h0 : StAt lo w A0 n f) :
    Calls Try.prog 130 #[.slice A0 n c, .func (.func 86) #[] #[]] w (IdxPost (∃ m, m < n ∧ Must (f m)) w) := by
  have H0 := Lib.hid h0; clear h0
  go_enter Try.func130, Try.ntmps130
  go_wp2_with fail
  go_loopg [8] n (fun q iv wr => ∃ k : Nat, k + q = n ∧ iv = .int .i64 (k : Nat) ∧ Hid (∀ j, j < k → ¬ Must (f j)) ∧ Below w.heap.size w wr)
  case atStart => exact ⟨0, by omega, rfl, Lib.hid fun j h => by omega, Below.refl _ _⟩
  case round =>
    obtain ⟨k, hk, rfl, hq, hbel⟩ := hrel
    by_cases hk0 : k < n
    · obtain ⟨b, off, A3, c3, A4, c4, A5, c5, rfl, hb, r0, r1, r2, r3, r4, r5, r6, r7, g3, g4, g5⟩ := (H0.out.below hbel (Nat.le_refl _)).at_ hk0
      clear g3 g4 g5
      go_wp2_with (go_at_call 86; refine (must_any (f k) A3 A4 A5 c3 c4 c5 _).mono ?_; rintro e w1 ⟨r, rfl, hr, hb1⟩; have hB := hbel.trans (hb1.mono hbel.size); clear hb1)
      all_goals first
        | (go_ret
           exact ⟨(k : Int), rfl, Lib.hid ⟨fun _ => ⟨k, hk0, hr.out.1 (by assumption)⟩, fun _ => by omega⟩, hB⟩)
        | (have HE : Hid (r = false) := Lib.hid (by first | assumption | simpa using (by assumption : ¬ r = true))
           go_roundg (gk - 1)
           case rel => exact ⟨k + 1, by omega, by go_num, Lib.hid fun j hj => by
             by_cases hjk : j < k
             · exact hq.out j hjk
             · obtain rfl : j = k := by omega
               exact fun h => absurd (hr.out.2 h) (by rw [HE.out]; simp), hB⟩
           case measure => omega)
    · obtain rfl : k = n := by omega
      go_wp2_with fail
      go_ret
      exact ⟨-1, rfl, Lib.hid ⟨fun h => by omega, fun ⟨j, hj, h⟩ => absurd h (hq.out j hj)⟩, hbel⟩

set_option maxRecDepth 100000 in
theorem hasMust_any (lo : Nat) (A0 : Option Addr) (n c : Nat) (f : Nat → Stm) (w : World) (hn : n ≤ 1048576) (h0 : StAt lo w A0 n f) :
    Calls Try.prog 89 #[.slice A0 n c, .func (.func 86) #[] #[]] w (Yn (∃ m, m < n ∧ Must (f m)) w) := by
  have C := Lib.hid (idxMust_any lo A0 n c f w hn h0)
  clear h0
  go_enter Try.func89, Try.ntmps89
  go_wp2_with (go_at_call 130; refine C.out.mono ?_; rintro e w1 ⟨r, rfl, hr, hb⟩)
  go_ret
  exact ⟨_, rfl, Lib.hid ⟨fun h => hr.out.1 (by simpa using h), fun h => by simpa using hr.out.2 h⟩, hb⟩

/-- The program has no procedures and nothing that must be replaced. -/
def Plain (P : Prg) : Prop := P.np = 0 ∧ ¬ ∃ m, m < P.ns ∧ Must (P.st m)
open Classical in
noncomputable def unU (P : Prg) : Bool := if PgOk P ∧ Plain P then true else false
open Classical in
noncomputable def unV (P : Prg) : Bool := if PgOk P then true else false
theorem un_eq {P : Prg} {r : Bool} (h : PgOk P) (hr : r = true ↔ Plain P) : r = unU P := by
  rw [Bool.eq_iff_iff, hr]
  by_cases k : Plain P
  · exact ⟨fun _ => if_pos ⟨h, k⟩, fun _ => k⟩
  · exact ⟨fun k' => absurd k' k, fun e => by rw [unU, if_neg (fun z => k z.2)] at e; cases e⟩

theorem must_cases (s : Stm) : ((s.kind == 6) = true ∧ Must s) ∨ ((s.kind == 6) = false ∧ (s.kind == 8) = true ∧ Must s) ∨ ((s.kind == 6) = false ∧ (s.kind == 8) = false ∧ (s.kind == 7) = false ∧ ¬ Must s) ∨ ((s.kind == 6) = false ∧ (s.kind == 8) = false ∧ (s.kind == 7) = true ∧ (Must s ↔ ¬ Exh s)) := by
  by_cases h6 : s.kind = 6
  · exact .inl ⟨by rw [h6]; rfl, .inl h6, fun h => by have := h.1; omega⟩
  · by_cases h8 : s.kind = 8
    · exact .inr (.inl ⟨beq_eq_false_iff_ne.2 h6, by rw [h8]; rfl, .inr (.inr h8), fun h => by have := h.1; omega⟩)
    · by_cases h7 : s.kind = 7
      · exact .inr (.inr (.inr ⟨beq_eq_false_iff_ne.2 h6, beq_eq_false_iff_ne.2 h8, by rw [h7]; rfl, fun h => h.2, fun h => ⟨.inr (.inl h7), h⟩⟩))
      · exact .inr (.inr (.inl ⟨beq_eq_false_iff_ne.2 h6, beq_eq_false_iff_ne.2 h8, beq_eq_false_iff_ne.2 h7, fun h => by rcases h.1 with h | h | h <;> contradiction⟩))

set_option maxRecDepth 100000 in
set_option maxHeartbeats 3200000 in
theorem plain_any (lo : Nat) (P : Prg) (Av Ax As Ap Ab : Option Addr) (cv cx cs cp cb : Nat) (w : World) (hs : P.small) (h : PgAt lo w Av Ax As Ap Ab P) :
    Calls Try.prog 85 #[.agg #[.slice Av P.nv cv, .slice Ax P.nx cx, .slice As P.ns cs, .slice Ap P.np cp, .slice Ab P.nb cb, .int .i64 P.fuel]] w (Yn (Plain P) w) := by
  have hP := Box.new w 37 #[.slice Av P.nv cv, .slice Ax P.nx cx, .slice As P.ns cs, .slice Ap P.np cp, .slice Ab P.nb cb, .int .i64 P.fuel]
  have hB := (Below.refl w.heap.size w).alloc (Nat.le_refl _) (.cells #[.slice Av P.nv cv, .slice Ax P.nx cx, .slice As P.ns cs, .slice Ap P.np cp, .slice Ab P.nb cb, .int .i64 P.fuel] 37)
  obtain ⟨q0, q1, q2, q3, q4, q5, qf⟩ := hP.six
  have H := Lib.hid h
  have hns := hs.ns
  clear h hs
  go_enter Try.func85, Try.ntmps85
  go_wp2_with fail
  clear q0 q1 q2 q3 q4 q5 qf
  obtain ⟨w3, hw3⟩ : ∃ w3, w3 = w.alloc (.cells #[.slice Av P.nv cv, .slice Ax P.nx cx, .slice As P.ns cs, .slice Ap P.np cp, .slice Ab P.nb cb, .int .i64 P.fuel] 37) := ⟨_, rfl⟩
  rw [← hw3] at hP hB ⊢
  clear hw3
  go_loopg [8] P.ns (fun q iv wr => ∃ k : Nat, k + q = P.ns ∧ iv = .int .i64 (k : Nat) ∧ Hid (∀ j, j < k → ¬ Must (P.st j)) ∧ Below w3.heap.size w3 wr)
  case atStart => exact ⟨0, by omega, rfl, Lib.hid fun j h => by omega, Below.refl _ _⟩
  case round =>
    rename World => w4
    obtain ⟨k, hk, rfl, hq, hbel⟩ := hrel
    replace hP := hP.below hbel hP.lt
    replace hB := hB.trans (hbel.mono hB.size)
    by_cases hk0 : k < P.ns
    · obtain ⟨b, off, A3, c3, A4, c4, A5, c5, rfl, hb, r0, r1, r2, r3, r4, r5, r6, r7, g3, g4, g5⟩ := (H.out.below hB (Nat.le_refl _)).s.at_ hk0
      clear g3 g4 g5
      have hal := (Below.refl w4.heap.size w4).alloc (Nat.le_refl _) (.cells #[.int .i64 (P.st k).kind, .int .i64 (P.st k).var, .int .i64 (P.st k).ex, .slice A3 (P.st k).nc c3, .slice A4 (P.st k).nt c4, .slice A5 (P.st k).ne c5, .int .i64 (P.st k).times, .int .i64 (P.st k).proc] 110)
      have hV8 := Box.new w4 110 #[.int .i64 (P.st k).kind, .int .i64 (P.st k).var, .int .i64 (P.st k).ex, .slice A3 (P.st k).nc c3, .slice A4 (P.st k).nt c4, .slice A5 (P.st k).ne c5, .int .i64 (P.st k).times, .int .i64 (P.st k).proc]
      obtain ⟨v0, v1, v2, v3, v4, v5, v6, v7, vf⟩ := hV8.eight
      have CX : Hid (∀ W, _) := Lib.hid fun W => specExh_any (P.st k) A3 A4 A5 c3 c4 c5 W
      have hBa := hB.trans (hal.mono hB.size)
      have hbea := hbel.trans (hal.mono hbel.size)
      rcases must_cases (P.st k) with ⟨e6, hl⟩ | ⟨e6, e8, hl⟩ | ⟨e6, e8, e7, hl⟩ | ⟨e6, e8, e7, hl⟩
      case inr.inr.inr =>
        by_cases hx : Exh (P.st k)
        · have HX := Lib.hid hx
          have HL : Hid (¬ Must (P.st k)) := Lib.hid fun h => (hl.1 h) hx
          clear hl hx
          go_wp2_with (go_at_call 129; refine (CX.out _).mono ?_; rintro e w5 ⟨r, rfl, hr, hb5⟩; obtain rfl : r = true := hr.out.2 HX.out; clear hr; replace hbea := hbea.trans (hb5.mono hbea.size))
          go_roundg (gk - 1)
          case rel => exact ⟨k + 1, by omega, by go_num, Lib.hid fun j hj => by
            by_cases hjk : j < k
            · exact hq.out j hjk
            · obtain rfl : j = k := by omega
              exact HL.out, hbea⟩
          case measure => omega
        · have HX := Lib.hid hx
          have HL : Hid (Must (P.st k)) := Lib.hid (hl.2 hx)
          clear hl hx
          go_wp2_with (go_at_call 129; refine (CX.out _).mono ?_; rintro e w5 ⟨r, rfl, hr, hb5⟩; obtain rfl : r = false := (by cases r with | false => rfl | true => exact absurd (hr.out.1 rfl) HX.out); clear hr; replace hBa := hBa.trans (hb5.mono hBa.size))
          go_ret
          exact Yn.no (fun h => h.2 ⟨k, hk0, HL.out⟩) hBa
      all_goals have HL := Lib.hid hl
      all_goals clear hl
      all_goals go_wp2_with fail
      all_goals first
        | (go_ret
           exact Yn.no (fun h => h.2 ⟨k, hk0, HL.out⟩) hBa)
        | (go_roundg (gk - 1)
           case rel => exact ⟨k + 1, by omega, by go_num, Lib.hid fun j hj => by
             by_cases hjk : j < k
             · exact hq.out j hjk
             · obtain rfl : j = k := by omega
               exact HL.out, hbea⟩
           case measure => omega)
    · obtain rfl : k = P.ns := by omega
      obtain ⟨q0, q1, q2, q3, q4, q5, qf⟩ := hP.six
      have HQ : Hid (¬ ∃ m, m < P.ns ∧ Must (P.st m)) := Lib.hid fun ⟨j, hj, h⟩ => hq.out j hj h
      by_cases hnp : P.np = 0
      · have e0 : ((P.np : Int) == 0) = true := by rw [hnp]; rfl
        have HN := Lib.hid hnp
        clear hnp
        go_wp2_with fail
        go_ret
        exact Yn.yes ⟨HN.out, HQ.out⟩ hB
      · have e0 : ((P.np : Int) == 0) = false := beq_eq_false_iff_ne.2 (by omega)
        have HN := Lib.hid hnp
        clear hnp
        go_wp2_with fail
        go_ret
        exact Yn.no (fun h => HN.out h.1) hB

set_option maxRecDepth 100000 in
set_option maxHeartbeats 3200000 in
theorem specUn_any (lo : Nat) (P : Prg) (Av Ax As Ap Ab : Option Addr) (cv cx cs cp cb : Nat) (w : World) (hs : P.small) (hcv : P.nv ≤ cv) (hcp : P.np ≤ cp) (h : PgAt lo w Av Ax As Ap Ab P) :
    Calls Try.prog 34 #[.agg #[.slice Av P.nv cv, .slice Ax P.nx cx, .slice As P.ns cs, .slice Ap P.np cp, .slice Ab P.nb cb, .int .i64 P.fuel]] w fun e w' => e = .returned (.tuple #[.bool (unU P), .bool (unV P)]) ∧ Below w.heap.size w w' := by
  have hP := Box.new w 37 #[.slice Av P.nv cv, .slice Ax P.nx cx, .slice As P.ns cs, .slice Ap P.np cp, .slice Ab P.nb cb, .int .i64 P.fuel]
  have hB := (Below.refl w.heap.size w).alloc (Nat.le_refl _) (.cells #[.slice Av P.nv cv, .slice Ax P.nx cx, .slice As P.ns cs, .slice Ap P.np cp, .slice Ab P.nb cb, .int .i64 P.fuel] 37)
  obtain ⟨q0, q1, q2, q3, q4, q5, qf⟩ := hP.six
  have H := Lib.hid h
  have HSM := Lib.hid hs
  clear h hs
  by_cases F0 : PgOk P
  · have F := Lib.hid F0
    have hv : unV P = true := if_pos F0
    rw [hv]
    clear hv F0
    go_enter Try.func34, Try.ntmps34
    go_wp2_with (first
      | (go_at_call 46
         refine (specVal_any lo P Av Ax As Ap Ab cv cx cs cp cb _ HSM.out hcv hcp (H.out.below hB (Nat.le_refl _))).mono ?_
         rintro e w1 ⟨r, rfl, hr, hb⟩
         obtain rfl : r = true := hr.out.2 F.out
         clear q0 q1 q2 q3 q4 q5 qf hr
         replace hP := hP.below hb hP.lt
         replace hB := hB.trans (hb.mono hB.size)
         clear hb
         obtain ⟨q0, q1, q2, q3, q4, q5, qf⟩ := hP.six)
      | (go_at_call 85
         refine (plain_any lo P Av Ax As Ap Ab cv cx cs cp cb _ HSM.out (H.out.below hB (Nat.le_refl _))).mono ?_
         rintro e w2 ⟨r, rfl, hr, hb⟩
         replace hB := hB.trans (hb.mono hB.size)
         clear hb))
    go_ret2
    have hrr := un_eq F.out hr.out
    exact ⟨by rw [← hrr]; rfl, hB⟩
  · have F := Lib.hid F0
    have hv : unV P = false := if_neg F0
    have hu : unU P = false := if_neg (fun h => F0 h.1)
    rw [hv, hu]
    clear hv hu F0
    go_enter Try.func34, Try.ntmps34
    go_wp2_with (first
      | (go_at_call 46
         refine (specVal_any lo P Av Ax As Ap Ab cv cx cs cp cb _ HSM.out hcv hcp (H.out.below hB (Nat.le_refl _))).mono ?_
         rintro e w1 ⟨r, rfl, hr, hb⟩
         obtain rfl : r = false := by cases r with | false => rfl | true => exact absurd (hr.out.1 rfl) F.out
         clear q0 q1 q2 q3 q4 q5 qf hr
         replace hP := hP.below hb hP.lt
         replace hB := hB.trans (hb.mono hB.size)
         clear hb
         obtain ⟨q0, q1, q2, q3, q4, q5, qf⟩ := hP.six))
    go_ret2
    exact ⟨rfl, hB⟩

set_option maxRecDepth 100000 in
set_option maxHeartbeats 3200000 in
theorem implUn_any (lo : Nat) (P : Prg) (Av Ax As Ap Ab : Option Addr) (cv cx cs cp cb : Nat) (w : World) (hs : P.small) (h : PgAt lo w Av Ax As Ap Ab P) :
    Calls Try.prog 35 #[.agg #[.slice Av P.nv cv, .slice Ax P.nx cx, .slice As P.ns cs, .slice Ap P.np cp, .slice Ab P.nb cb, .int .i64 P.fuel]] w fun e w' => e = .returned (.tuple #[.bool (unU P), .bool (unV P)]) ∧ Below w.heap.size w w' := by
  have hP := Box.new w 37 #[.slice Av P.nv cv, .slice Ax P.nx cx, .slice As P.ns cs, .slice Ap P.np cp, .slice Ab P.nb cb, .int .i64 P.fuel]
  have hB := (Below.refl w.heap.size w).alloc (Nat.le_refl _) (.cells #[.slice Av P.nv cv, .slice Ax P.nx cx, .slice As P.ns cs, .slice Ap P.np cp, .slice Ab P.nb cb, .int .i64 P.fuel] 37)
  obtain ⟨q0, q1, q2, q3, q4, q5, qf⟩ := hP.six
  have H := Lib.hid h
  have HSM := Lib.hid hs
  have hns := hs.ns
  clear h hs
  by_cases F0 : PgOk P
  · have F := Lib.hid F0
    have hv : unV P = true := if_pos F0
    rw [hv]
    clear hv F0
    by_cases hnp : P.np = 0
    · have e0 : ((P.np : Int) == 0) = true := by rw [hnp]; rfl
      have HN := Lib.hid hnp
      clear hnp
      go_enter Try.func35, Try.ntmps35
      go_wp2_with (first
      | (go_at_call 54
         refine (implValid_any lo P Av Ax As Ap Ab cv cx cs cp cb _ HSM.out (H.out.below hB (Nat.le_refl _))).mono ?_
         rintro e w1 ⟨r, rfl, hr, hb⟩
         obtain rfl : r = true := hr.out.2 F.out
         clear q0 q1 q2 q3 q4 q5 qf hr
         replace hP := hP.below hb hP.lt
         replace hB := hB.trans (hb.mono hB.size)
         clear hb
         obtain ⟨q0, q1, q2, q3, q4, q5, qf⟩ := hP.six)
      | (go_at_call 89
         refine (hasMust_any lo As P.ns cs P.st _ hns (H.out.below hB (Nat.le_refl _)).s).mono ?_
         rintro e w2 ⟨r, rfl, hr, hb⟩
         replace hB := hB.trans (hb.mono hB.size)
         clear hb))
      go_ret2
      have hrr := un_eq (r := !r) F.out (by rw [Plain, ← hr.out]; cases r <;> simp [HN.out])
      exact ⟨by rw [← hrr]; rfl, hB⟩
    · have e0 : ((P.np : Int) == 0) = false := beq_eq_false_iff_ne.2 (by omega)
      have HN := Lib.hid hnp
      clear hnp
      go_enter Try.func35, Try.ntmps35
      go_wp2_with (first
      | (go_at_call 54
         refine (implValid_any lo P Av Ax As Ap Ab cv cx cs cp cb _ HSM.out (H.out.below hB (Nat.le_refl _))).mono ?_
         rintro e w1 ⟨r, rfl, hr, hb⟩
         obtain rfl : r = true := hr.out.2 F.out
         clear q0 q1 q2 q3 q4 q5 qf hr
         replace hP := hP.below hb hP.lt
         replace hB := hB.trans (hb.mono hB.size)
         clear hb
         obtain ⟨q0, q1, q2, q3, q4, q5, qf⟩ := hP.six))
      go_ret2
      have hrr := un_eq (r := false) F.out ⟨fun h => (by cases h), fun h => absurd h.1 HN.out⟩
      exact ⟨by rw [← hrr]; rfl, hB⟩
  · have F := Lib.hid F0
    have hv : unV P = false := if_neg F0
    have hu : unU P = false := if_neg (fun h => F0 h.1)
    rw [hv, hu]
    clear hv hu F0
    go_enter Try.func35, Try.ntmps35
    go_wp2_with (first
      | (go_at_call 54
         refine (implValid_any lo P Av Ax As Ap Ab cv cx cs cp cb _ HSM.out (H.out.below hB (Nat.le_refl _))).mono ?_
         rintro e w1 ⟨r, rfl, hr, hb⟩
         obtain rfl : r = false := by cases r with | false => rfl | true => exact absurd (hr.out.1 rfl) F.out
         clear q0 q1 q2 q3 q4 q5 qf hr
         replace hP := hP.below hb hP.lt
         replace hB := hB.trans (hb.mono hB.size)
         clear hb
         obtain ⟨q0, q1, q2, q3, q4, q5, qf⟩ := hP.six))
    go_ret2
    exact ⟨rfl, hB⟩

end Go.Proofs.Ytcdgbjklfmlhkaa
