/-
  Programs: the law's sizes: where the size is not negative, every length is at most 2^20.
-/
import Derived.Test.YtoaiejodbmkbjaaGreatDoorPgEq
namespace Go.Proofs.YtoaiejodbmkbjaaGreatDoor
open Go.RowKit Num

/-- A size's post: what is left, negative or with every length bounded. -/
def Sz (left : Int) (Q : Prop) (w : World) (e : Ending) (w' : World) : Prop := ∃ r : Int, e = .returned (.int .i64 r) ∧ Hid (-1 ≤ r ∧ r ≤ left ∧ (0 ≤ r → Q)) ∧ Below w.heap.size w w'

/-- All lengths fit in an int. -/
structure Stm.fits (s : Stm) : Prop where
  nc : s.nc ≤ 9223372036854775807
  nt : s.nt ≤ 9223372036854775807
  ne : s.ne ≤ 9223372036854775807
structure Prg.fits (P : Prg) : Prop where
  nv : P.nv ≤ 9223372036854775807
  nx : P.nx ≤ 9223372036854775807
  ns : P.ns ≤ 9223372036854775807
  np : P.np ≤ 9223372036854775807
  nb : P.nb ≤ 9223372036854775807
  vn : ∀ j, j < P.nv → (P.vn j).size ≤ 9223372036854775807
  pn : ∀ j, j < P.np → (P.pn j).size ≤ 9223372036854775807
  pl : ∀ j, j < P.np → P.pl j ≤ 9223372036854775807
  st : ∀ j, j < P.ns → (P.st j).fits

set_option maxRecDepth 100000 in
theorem szIntS_any (A0 : Option Addr) (n cap : Nat) (left : Int) (w : World) (hn : n ≤ 9223372036854775807) (h0 : 0 ≤ left) (h1 : left ≤ 1048576) :
    Calls Tryz.prog 13 #[.slice A0 n cap, .int .i64 left] w (Sz left (n ≤ 1048576) w) := by
  by_cases h : (n : Int) ≤ left
  · have h2 : ¬ (left - (n : Int) < 0) := by omega
    go_enter Tryz.func13, Tryz.ntmps13
    go_wp2_with fail
    all_goals first
      | (go_ret; exact ⟨left - n, rfl, Lib.hid ⟨by omega, by omega, fun _ => by omega⟩, Below.refl _ _⟩)
      | (exfalso; omega)
  · have h2 : left - (n : Int) < 0 := by omega
    go_enter Tryz.func13, Tryz.ntmps13
    go_wp2_with fail
    all_goals first
      | (go_ret; exact ⟨-1, rfl, Lib.hid ⟨by omega, by omega, fun _ => by omega⟩, Below.refl _ _⟩)
      | (exfalso; omega)

set_option maxRecDepth 100000 in
theorem szChoiceS_any (A0 : Option Addr) (n cap : Nat) (left : Int) (w : World) (hn : n ≤ 9223372036854775807) (h0 : 0 ≤ left) (h1 : left ≤ 1048576) :
    Calls Tryz.prog 57 #[.slice A0 n cap, .int .i64 left] w (Sz left (n ≤ 1048576) w) := by
  by_cases h : (n : Int) ≤ left
  · have h2 : ¬ (left - (n : Int) < 0) := by omega
    go_enter Tryz.func57, Tryz.ntmps57
    go_wp2_with fail
    all_goals first
      | (go_ret; exact ⟨left - n, rfl, Lib.hid ⟨by omega, by omega, fun _ => by omega⟩, Below.refl _ _⟩)
      | (exfalso; omega)
  · have h2 : left - (n : Int) < 0 := by omega
    go_enter Tryz.func57, Tryz.ntmps57
    go_wp2_with fail
    all_goals first
      | (go_ret; exact ⟨-1, rfl, Lib.hid ⟨by omega, by omega, fun _ => by omega⟩, Below.refl _ _⟩)
      | (exfalso; omega)

set_option maxRecDepth 100000 in
theorem szExprS_any (A0 : Option Addr) (n cap : Nat) (left : Int) (w : World) (hn : n ≤ 9223372036854775807) (h0 : 0 ≤ left) (h1 : left ≤ 1048576) :
    Calls Tryz.prog 10 #[.slice A0 n cap, .int .i64 left] w (Sz left (n ≤ 1048576) w) := by
  by_cases h : (n : Int) ≤ left
  · have h2 : ¬ (left - (n : Int) < 0) := by omega
    go_enter Tryz.func10, Tryz.ntmps10
    go_wp2_with fail
    all_goals first
      | (go_ret; exact ⟨left - n, rfl, Lib.hid ⟨by omega, by omega, fun _ => by omega⟩, Below.refl _ _⟩)
      | (exfalso; omega)
  · have h2 : left - (n : Int) < 0 := by omega
    go_enter Tryz.func10, Tryz.ntmps10
    go_wp2_with fail
    all_goals first
      | (go_ret; exact ⟨-1, rfl, Lib.hid ⟨by omega, by omega, fun _ => by omega⟩, Below.refl _ _⟩)
      | (exfalso; omega)

set_option maxRecDepth 100000 in
theorem szVar_any (s : ByteArray) (z left : Int) (w : World) (hn : s.size ≤ 9223372036854775807) (h0 : 0 ≤ left) (h1 : left ≤ 1048576) :
    Calls Tryz.prog 32 #[.agg #[.string s, .int .i64 z], .int .i64 left] w (Sz left (s.size ≤ 1048576) w) := by
  have hP := Box.new w 66 #[.string s, .int .i64 z]
  have q0 := hP.cell 0
  have q1 := hP.cell 1
  by_cases h : (s.size : Int) ≤ left
  · have h2 : ¬ (left - (s.size : Int) < 0) := by omega
    go_enter Tryz.func32, Tryz.ntmps32
    go_wp2_with fail
    all_goals first
      | (go_ret; exact ⟨left - s.size, rfl, Lib.hid ⟨by omega, by omega, fun _ => by omega⟩, (Below.refl _ w).alloc (Nat.le_refl _) _⟩)
      | (exfalso; omega)
  · have h2 : left - (s.size : Int) < 0 := by omega
    go_enter Tryz.func32, Tryz.ntmps32
    go_wp2_with fail
    all_goals first
      | (go_ret; exact ⟨-1, rfl, Lib.hid ⟨by omega, by omega, fun _ => by omega⟩, (Below.refl _ w).alloc (Nat.le_refl _) _⟩)
      | (exfalso; omega)

set_option maxRecDepth 100000 in
set_option maxHeartbeats 1600000 in
theorem szProc_any (s : ByteArray) (A1 : Option Addr) (m c1 : Nat) (left : Int) (w : World) (hn : s.size ≤ 9223372036854775807) (hm : m ≤ 9223372036854775807) (h0 : 0 ≤ left) (h1 : left ≤ 1048576) :
    Calls Tryz.prog 34 #[.agg #[.string s, .slice A1 m c1], .int .i64 left] w (Sz left (s.size ≤ 1048576 ∧ m ≤ 1048576) w) := by
  have hP := Box.new w 73 #[.string s, .slice A1 m c1]
  have q0 := hP.cell 0
  have q1 := hP.cell 1
  have hB := (Below.refl w.heap.size w).alloc (Nat.le_refl _) (.cells #[.string s, .slice A1 m c1] 73)
  by_cases h : (s.size : Int) ≤ left
  · have h2 : ¬ (left - (s.size : Int) < 0) := by omega
    have C : Hid (∀ W, _) := Lib.hid fun W => szIntS_any A1 m c1 (left - s.size) W hm (by omega) (by omega)
    go_enter Tryz.func34, Tryz.ntmps34
    go_wp2_with (go_at_call 13; refine (C.out _).mono ?_; rintro e w1 ⟨r, rfl, hr, hb⟩)
    all_goals first
      | (go_ret; exact ⟨r, rfl, Lib.hid ⟨by have := hr.out; omega, by have := hr.out; omega, fun h => ⟨by omega, hr.out.2.2 h⟩⟩, hB.trans (hb.mono hB.size)⟩)
      | (go_ret; exact ⟨-1, rfl, Lib.hid ⟨by omega, by omega, fun h => by omega⟩, hB.trans (hb.mono hB.size)⟩)
      | (exfalso; omega)
  · have h2 : left - (s.size : Int) < 0 := by omega
    go_enter Tryz.func34, Tryz.ntmps34
    go_wp2_with fail
    all_goals first
      | (go_ret; exact ⟨-1, rfl, Lib.hid ⟨by omega, by omega, fun _ => by omega⟩, hB⟩)
      | (exfalso; omega)

set_option maxRecDepth 100000 in
set_option maxHeartbeats 1600000 in
theorem szStmt_any (s : Stm) (A3 A4 A5 : Option Addr) (c3 c4 c5 : Nat) (left : Int) (w : World) (hs : s.fits) (h0 : 0 ≤ left) (h1 : left ≤ 1048576) :
    Calls Tryz.prog 33 #[.agg #[.int .i64 s.kind, .int .i64 s.var, .int .i64 s.ex, .slice A3 s.nc c3, .slice A4 s.nt c4, .slice A5 s.ne c5, .int .i64 s.times, .int .i64 s.proc], .int .i64 left] w (Sz left s.small w) := by
  have hP := Box.new w 70 #[.int .i64 s.kind, .int .i64 s.var, .int .i64 s.ex, .slice A3 s.nc c3, .slice A4 s.nt c4, .slice A5 s.ne c5, .int .i64 s.times, .int .i64 s.proc]
  obtain ⟨q0, q1, q2, q3, q4, q5, q6, q7, qf⟩ := hP.eight
  have hB := (Below.refl w.heap.size w).alloc (Nat.le_refl _) (.cells #[.int .i64 s.kind, .int .i64 s.var, .int .i64 s.ex, .slice A3 s.nc c3, .slice A4 s.nt c4, .slice A5 s.ne c5, .int .i64 s.times, .int .i64 s.proc] 70)
  have C3 : Hid (∀ W, _) := Lib.hid fun W => szChoiceS_any A3 s.nc c3 left W hs.nc h0 h1
  have C4 : Hid (∀ (l : Int) W, 0 ≤ l → l ≤ 1048576 → _) := Lib.hid fun l W a b => szIntS_any A4 s.nt c4 l W hs.nt a b
  have C5 : Hid (∀ (l : Int) W, 0 ≤ l → l ≤ 1048576 → _) := Lib.hid fun l W a b => szIntS_any A5 s.ne c5 l W hs.ne a b
  clear hs
  go_enter Tryz.func33, Tryz.ntmps33
  go_wp2_with (first
    | (go_at_call 57
       refine (C3.out _).mono ?_
       rintro e w1 ⟨r3, rfl, hr3, hb⟩
       have hl3 : r3 ≤ 1048576 := by have := hr3.out; omega
       clear q0 q1 q2 q3 q4 q5 q6 q7 qf
       replace hP := hP.below hb hP.lt
       replace hB := hB.trans (hb.mono hB.size)
       clear hb
       obtain ⟨q0, q1, q2, q3, q4, q5, q6, q7, qf⟩ := hP.eight)
    | (go_at_call 13
       with_reducible refine (C4.out _ _ (by omega) (by omega)).mono ?_
       rintro e w2 ⟨r4, rfl, hr4, hb⟩
       have hl4 : r4 ≤ 1048576 := by have := hr4.out; omega
       clear q0 q1 q2 q3 q4 q5 q6 q7 qf
       replace hP := hP.below hb hP.lt
       replace hB := hB.trans (hb.mono hB.size)
       clear hb
       obtain ⟨q0, q1, q2, q3, q4, q5, q6, q7, qf⟩ := hP.eight)
    | (go_at_call 13
       with_reducible refine (C5.out _ _ (by omega) (by omega)).mono ?_
       rintro e w3 ⟨r5, rfl, hr5, hb⟩
       replace hB := hB.trans (hb.mono hB.size)
       clear hb))
  all_goals first
    | (go_ret; exact ⟨r5, rfl, Lib.hid ⟨by have := hr5.out; omega, by have := hr3.out; have := hr4.out; have := hr5.out; omega, fun h => ⟨hr3.out.2.2 (by omega), hr4.out.2.2 (by omega), hr5.out.2.2 h⟩⟩, hB⟩)
    | (go_ret; exact ⟨-1, rfl, Lib.hid ⟨by omega, by omega, fun h => by omega⟩, hB⟩)

set_option maxRecDepth 100000 in
set_option maxHeartbeats 1600000 in
theorem szVarS_any (lo : Nat) (A0 : Option Addr) (n cap : Nat) (vn : Nat → ByteArray) (vz : Nat → Int) (left : Int) (w : World) (hn : n ≤ 9223372036854775807) (h0 : 0 ≤ left) (h1 : left ≤ 1048576) (hA : VrAt lo w A0 n vn vz) (hs : ∀ j, j < n → (vn j).size ≤ 9223372036854775807) :
    Calls Tryz.prog 9 #[.slice A0 n cap, .int .i64 left] w (Sz left (n ≤ 1048576 ∧ ∀ j, j < n → (vn j).size ≤ 1048576) w) := by
  have HA := Lib.hid hA; clear hA
  have HS := Lib.hid hs; clear hs
  by_cases h : (n : Int) ≤ left
  · have h2 : ¬ (left - (n : Int) < 0) := by omega
    go_enter Tryz.func9, Tryz.ntmps9
    go_wp2_with fail
    all_goals first
      | (exfalso; omega)
      | skip
    go_loopg [1, 5] n (fun q lv iv wr => ∃ (k : Nat) (l : Int), k + q = n ∧ lv = .int .i64 l ∧ iv = .int .i64 (k : Nat) ∧ (0 ≤ l ∧ l ≤ left) ∧ Hid (∀ j, j < k → (vn j).size ≤ 1048576) ∧ Below w.heap.size w wr)
    case atStart => exact ⟨0, left - n, by omega, rfl, rfl, ⟨by omega, by omega⟩, Lib.hid fun j h => by omega, Below.refl _ _⟩
    case round =>
      obtain ⟨k, l, hk, rfl, rfl, ⟨hl0, hl1⟩, hq, hbel⟩ := hrel
      by_cases hk0 : k < n
      · obtain ⟨b, off, rfl, hb, r0, r1⟩ := (HA.out.below hbel (Nat.le_refl _)).at_ hk0
        have C := Lib.hid (szVar_any (vn k) (vz k) l wr (HS.out k hk0) hl0 (by omega))
        clear h h2
        go_wp2_with (go_at_call 32; refine C.out.mono ?_; rintro e w1 ⟨r, rfl, hr, hb1⟩; have hB := hbel.trans (hb1.mono hbel.size))
        all_goals first
          | (go_ret; exact ⟨-1, rfl, Lib.hid ⟨by omega, by omega, fun h => by omega⟩, hB⟩)
          | (go_roundg (gk - 1)
             case rel =>
               refine ⟨k + 1, r, by omega, rfl, by go_num, ⟨by omega, by have := hr.out; omega⟩, Lib.hid fun j hj => ?_, hB⟩
               by_cases hjk : j < k
               · exact hq.out j hjk
               · obtain rfl : j = k := by omega
                 exact hr.out.2.2 (by omega)
             case measure => omega)
      · obtain rfl : k = n := by omega
        go_wp2_with fail
        go_ret
        exact ⟨l, rfl, Lib.hid ⟨by omega, hl1, fun _ => ⟨by omega, hq.out⟩⟩, hbel⟩
  · have h2 : left - (n : Int) < 0 := by omega
    go_enter Tryz.func9, Tryz.ntmps9
    go_wp2_with fail
    all_goals first
      | (go_ret; exact ⟨-1, rfl, Lib.hid ⟨by omega, by omega, fun h => by omega⟩, Below.refl _ _⟩)
      | (exfalso; omega)

set_option maxRecDepth 100000 in
set_option maxHeartbeats 1600000 in
theorem szProcS_any (lo : Nat) (A0 : Option Addr) (n cap : Nat) (pn : Nat → ByteArray) (pl : Nat → Nat) (pb : Nat → Nat → Int) (left : Int) (w : World) (hn : n ≤ 9223372036854775807) (h0 : 0 ≤ left) (h1 : left ≤ 1048576) (hA : PrAt lo w A0 n pn pl pb) (hs : ∀ j, j < n → (pn j).size ≤ 9223372036854775807 ∧ pl j ≤ 9223372036854775807) :
    Calls Tryz.prog 12 #[.slice A0 n cap, .int .i64 left] w (Sz left (n ≤ 1048576 ∧ ∀ j, j < n → ((pn j).size ≤ 1048576 ∧ pl j ≤ 1048576)) w) := by
  have HA := Lib.hid hA; clear hA
  have HS := Lib.hid hs; clear hs
  by_cases h : (n : Int) ≤ left
  · have h2 : ¬ (left - (n : Int) < 0) := by omega
    go_enter Tryz.func12, Tryz.ntmps12
    go_wp2_with fail
    all_goals first
      | (exfalso; omega)
      | skip
    go_loopg [1, 5] n (fun q lv iv wr => ∃ (k : Nat) (l : Int), k + q = n ∧ lv = .int .i64 l ∧ iv = .int .i64 (k : Nat) ∧ (0 ≤ l ∧ l ≤ left) ∧ Hid (∀ j, j < k → ((pn j).size ≤ 1048576 ∧ pl j ≤ 1048576)) ∧ Below w.heap.size w wr)
    case atStart => exact ⟨0, left - n, by omega, rfl, rfl, ⟨by omega, by omega⟩, Lib.hid fun j h => by omega, Below.refl _ _⟩
    case round =>
      obtain ⟨k, l, hk, rfl, rfl, ⟨hl0, hl1⟩, hq, hbel⟩ := hrel
      by_cases hk0 : k < n
      · obtain ⟨b, off, A1, c1, rfl, hb, r0, r1, g1⟩ := (HA.out.below hbel (Nat.le_refl _)).at_ hk0
        have C := Lib.hid (szProc_any (pn k) A1 (pl k) c1 l wr (HS.out k hk0).1 (HS.out k hk0).2 hl0 (by omega))
        clear g1
        clear h h2
        go_wp2_with (go_at_call 34; refine C.out.mono ?_; rintro e w1 ⟨r, rfl, hr, hb1⟩; have hB := hbel.trans (hb1.mono hbel.size))
        all_goals first
          | (go_ret; exact ⟨-1, rfl, Lib.hid ⟨by omega, by omega, fun h => by omega⟩, hB⟩)
          | (go_roundg (gk - 1)
             case rel =>
               refine ⟨k + 1, r, by omega, rfl, by go_num, ⟨by omega, by have := hr.out; omega⟩, Lib.hid fun j hj => ?_, hB⟩
               by_cases hjk : j < k
               · exact hq.out j hjk
               · obtain rfl : j = k := by omega
                 exact hr.out.2.2 (by omega)
             case measure => omega)
      · obtain rfl : k = n := by omega
        go_wp2_with fail
        go_ret
        exact ⟨l, rfl, Lib.hid ⟨by omega, hl1, fun _ => ⟨by omega, hq.out⟩⟩, hbel⟩
  · have h2 : left - (n : Int) < 0 := by omega
    go_enter Tryz.func12, Tryz.ntmps12
    go_wp2_with fail
    all_goals first
      | (go_ret; exact ⟨-1, rfl, Lib.hid ⟨by omega, by omega, fun h => by omega⟩, Below.refl _ _⟩)
      | (exfalso; omega)

set_option maxRecDepth 100000 in
set_option maxHeartbeats 1600000 in
theorem szStmtS_any (lo : Nat) (A0 : Option Addr) (n cap : Nat) (st : Nat → Stm) (left : Int) (w : World) (hn : n ≤ 9223372036854775807) (h0 : 0 ≤ left) (h1 : left ≤ 1048576) (hA : StAt lo w A0 n st) (hs : ∀ j, j < n → (st j).fits) :
    Calls Tryz.prog 11 #[.slice A0 n cap, .int .i64 left] w (Sz left (n ≤ 1048576 ∧ ∀ j, j < n → (st j).small) w) := by
  have HA := Lib.hid hA; clear hA
  have HS := Lib.hid hs; clear hs
  by_cases h : (n : Int) ≤ left
  · have h2 : ¬ (left - (n : Int) < 0) := by omega
    go_enter Tryz.func11, Tryz.ntmps11
    go_wp2_with fail
    all_goals first
      | (exfalso; omega)
      | skip
    go_loopg [1, 5] n (fun q lv iv wr => ∃ (k : Nat) (l : Int), k + q = n ∧ lv = .int .i64 l ∧ iv = .int .i64 (k : Nat) ∧ (0 ≤ l ∧ l ≤ left) ∧ Hid (∀ j, j < k → (st j).small) ∧ Below w.heap.size w wr)
    case atStart => exact ⟨0, left - n, by omega, rfl, rfl, ⟨by omega, by omega⟩, Lib.hid fun j h => by omega, Below.refl _ _⟩
    case round =>
      obtain ⟨k, l, hk, rfl, rfl, ⟨hl0, hl1⟩, hq, hbel⟩ := hrel
      by_cases hk0 : k < n
      · obtain ⟨b, off, A3, c3, A4, c4, A5, c5, rfl, hb, r0, r1, r2, r3, r4, r5, r6, r7, g3, g4, g5⟩ := (HA.out.below hbel (Nat.le_refl _)).at_ hk0
        have C := Lib.hid (szStmt_any (st k) A3 A4 A5 c3 c4 c5 l wr (HS.out k hk0) hl0 (by omega))
        clear g3 g4 g5
        clear h h2
        go_wp2_with (go_at_call 33; refine C.out.mono ?_; rintro e w1 ⟨r, rfl, hr, hb1⟩; have hB := hbel.trans (hb1.mono hbel.size))
        all_goals first
          | (go_ret; exact ⟨-1, rfl, Lib.hid ⟨by omega, by omega, fun h => by omega⟩, hB⟩)
          | (go_roundg (gk - 1)
             case rel =>
               refine ⟨k + 1, r, by omega, rfl, by go_num, ⟨by omega, by have := hr.out; omega⟩, Lib.hid fun j hj => ?_, hB⟩
               by_cases hjk : j < k
               · exact hq.out j hjk
               · obtain rfl : j = k := by omega
                 exact hr.out.2.2 (by omega)
             case measure => omega)
      · obtain rfl : k = n := by omega
        go_wp2_with fail
        go_ret
        exact ⟨l, rfl, Lib.hid ⟨by omega, hl1, fun _ => ⟨by omega, hq.out⟩⟩, hbel⟩
  · have h2 : left - (n : Int) < 0 := by omega
    go_enter Tryz.func11, Tryz.ntmps11
    go_wp2_with fail
    all_goals first
      | (go_ret; exact ⟨-1, rfl, Lib.hid ⟨by omega, by omega, fun h => by omega⟩, Below.refl _ _⟩)
      | (exfalso; omega)

set_option maxRecDepth 100000 in
set_option maxHeartbeats 3200000 in
theorem szProgram_any (lo : Nat) (P : Prg) (Av Ax As Ap Ab : Option Addr) (cv cx cs cp cb : Nat) (left : Int) (w : World) (hs : P.fits) (h : PgAt lo w Av Ax As Ap Ab P) (h0 : 0 ≤ left) (h1 : left ≤ 1048576) :
    Calls Tryz.prog 4 #[.agg #[.slice Av P.nv cv, .slice Ax P.nx cx, .slice As P.ns cs, .slice Ap P.np cp, .slice Ab P.nb cb, .int .i64 P.fuel], .int .i64 left] w (Sz left P.small w) := by
  have hP := Box.new w 28 #[.slice Av P.nv cv, .slice Ax P.nx cx, .slice As P.ns cs, .slice Ap P.np cp, .slice Ab P.nb cb, .int .i64 P.fuel]
  obtain ⟨q0, q1, q2, q3, q4, q5, qf⟩ := hP.six
  have hB := (Below.refl w.heap.size w).alloc (Nat.le_refl _) (.cells #[.slice Av P.nv cv, .slice Ax P.nx cx, .slice As P.ns cs, .slice Ap P.np cp, .slice Ab P.nb cb, .int .i64 P.fuel] 28)
  have Cv : Hid (∀ (l : Int) W, Below w.heap.size w W → 0 ≤ l → l ≤ 1048576 → _) := Lib.hid fun l W hW u v => szVarS_any lo Av P.nv cv P.vn P.vz l W hs.nv u v (h.v.below hW (Nat.le_refl _)) hs.vn
  have Cx : Hid (∀ (l : Int) W, Below w.heap.size w W → 0 ≤ l → l ≤ 1048576 → _) := Lib.hid fun l W hW u v => szExprS_any Ax P.nx cx  l W hs.nx u v 
  have Cs : Hid (∀ (l : Int) W, Below w.heap.size w W → 0 ≤ l → l ≤ 1048576 → _) := Lib.hid fun l W hW u v => szStmtS_any lo As P.ns cs P.st l W hs.ns u v (h.s.below hW (Nat.le_refl _)) hs.st
  have Cp : Hid (∀ (l : Int) W, Below w.heap.size w W → 0 ≤ l → l ≤ 1048576 → _) := Lib.hid fun l W hW u v => szProcS_any lo Ap P.np cp P.pn P.pl P.pb l W hs.np u v (h.p.below hW (Nat.le_refl _)) (fun j hj => ⟨hs.pn j hj, hs.pl j hj⟩)
  have Cb : Hid (∀ (l : Int) W, Below w.heap.size w W → 0 ≤ l → l ≤ 1048576 → _) := Lib.hid fun l W hW u v => szIntS_any Ab P.nb cb  l W hs.nb u v 
  clear h hs
  go_enter Tryz.func4, Tryz.ntmps4
  go_wp2_with (first
    | (go_at_call 9
       refine (Cv.out _ _ hB (by omega) (by omega)).mono ?_
       rintro e w1 ⟨rv, rfl, hrv, hb⟩
       have hlv : rv ≤ 1048576 := by have := hrv.out; omega
       clear q0 q1 q2 q3 q4 q5 qf
       replace hP := hP.below hb hP.lt
       replace hB := hB.trans (hb.mono hB.size)
       clear hb
       obtain ⟨q0, q1, q2, q3, q4, q5, qf⟩ := hP.six)
    | (go_at_call 10
       refine (Cx.out _ _ hB (by omega) (by omega)).mono ?_
       rintro e w1 ⟨rx, rfl, hrx, hb⟩
       have hlx : rx ≤ 1048576 := by have := hrx.out; omega
       clear q0 q1 q2 q3 q4 q5 qf
       replace hP := hP.below hb hP.lt
       replace hB := hB.trans (hb.mono hB.size)
       clear hb
       obtain ⟨q0, q1, q2, q3, q4, q5, qf⟩ := hP.six)
    | (go_at_call 11
       refine (Cs.out _ _ hB (by omega) (by omega)).mono ?_
       rintro e w1 ⟨rs, rfl, hrs, hb⟩
       have hls : rs ≤ 1048576 := by have := hrs.out; omega
       clear q0 q1 q2 q3 q4 q5 qf
       replace hP := hP.below hb hP.lt
       replace hB := hB.trans (hb.mono hB.size)
       clear hb
       obtain ⟨q0, q1, q2, q3, q4, q5, qf⟩ := hP.six)
    | (go_at_call 12
       refine (Cp.out _ _ hB (by omega) (by omega)).mono ?_
       rintro e w1 ⟨rp, rfl, hrp, hb⟩
       have hlp : rp ≤ 1048576 := by have := hrp.out; omega
       clear q0 q1 q2 q3 q4 q5 qf
       replace hP := hP.below hb hP.lt
       replace hB := hB.trans (hb.mono hB.size)
       clear hb
       obtain ⟨q0, q1, q2, q3, q4, q5, qf⟩ := hP.six)
    | (go_at_call 13
       refine (Cb.out _ _ hB (by omega) (by omega)).mono ?_
       rintro e w1 ⟨rb, rfl, hrb, hb⟩
       have hlb : rb ≤ 1048576 := by have := hrb.out; omega
       clear q0 q1 q2 q3 q4 q5 qf
       replace hP := hP.below hb hP.lt
       replace hB := hB.trans (hb.mono hB.size)
       clear hb
       obtain ⟨q0, q1, q2, q3, q4, q5, qf⟩ := hP.six))
  all_goals first
    | (go_ret
       refine ⟨rb, rfl, Lib.hid ⟨by have := hrb.out; omega, by have := hrv.out; have := hrx.out; have := hrs.out; have := hrp.out; have := hrb.out; omega, fun h => ?_⟩, hB⟩
       have kv := hrv.out.2.2 (by omega)
       have kx := hrx.out.2.2 (by omega)
       have ks := hrs.out.2.2 (by omega)
       have kp := hrp.out.2.2 (by omega)
       have kb := hrb.out.2.2 h
       exact ⟨kv.1, kx, ks.1, kp.1, kb, kv.2, fun j hj => (kp.2 j hj).1, fun j hj => (kp.2 j hj).2, ks.2⟩)
    | (go_ret; exact ⟨-1, rfl, Lib.hid ⟨by omega, by omega, fun h => by omega⟩, hB⟩)

end Go.Proofs.YtoaiejodbmkbjaaGreatDoor
