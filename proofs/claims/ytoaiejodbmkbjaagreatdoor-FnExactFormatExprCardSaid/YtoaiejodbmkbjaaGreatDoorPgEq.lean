/-
  Programs: the law's comparisons of two readings of the same data.
-/
import Derived.Test.YtoaiejodbmkbjaaGreatDoorPgT2
namespace Go.Proofs.YtoaiejodbmkbjaaGreatDoor
open Go.RowKit Num

set_option maxRecDepth 100000 in
set_option maxHeartbeats 1600000 in
theorem eqIntS_any (lo lo' : Nat) (A0 A1 : Option Addr) (n c0 c1 : Nat) (f : Nat → Int) (w : World) (hn : n ≤ 1048576) (h0 : IntsAt lo w A0 n f) (h1 : IntsAt lo' w A1 n f) :
    Calls Tryz.prog 31 #[.slice A0 n c0, .slice A1 n c1] w fun e w' => e = .returned (.bool true) ∧ Below w.heap.size w w' := by
  have H0 := Lib.hid h0; clear h0
  have H1 := Lib.hid h1; clear h1
  go_enter Tryz.func31, Tryz.ntmps31
  go_wp2_with fail
  go_loopg [5] n (fun q iv wr => ∃ k : Nat, k + q = n ∧ iv = .int .i64 (k : Nat) ∧ Below w.heap.size w wr)
  case atStart => exact ⟨0, by omega, rfl, Below.refl _ _⟩
  case round =>
    obtain ⟨k, hk, rfl, hbel⟩ := hrel
    by_cases hk0 : k < n
    · obtain ⟨b, off, rfl, hb, r0⟩ := (H0.out.below hbel (Nat.le_refl _)).at_ hk0
      obtain ⟨b', off', rfl, hb', r1⟩ := (H1.out.below hbel (Nat.le_refl _)).at_ hk0
      go_upto_region 6 with fail
      go_quiet (fail)
      go_wp2_with fail
      go_roundg (gk - 1)
      case rel => exact ⟨k + 1, by omega, by go_num, below_drewN _ hbel⟩
      case measure => omega
    · obtain rfl : k = n := by omega
      go_wp2_with fail
      go_ret
      exact ⟨rfl, hbel⟩

theorem held4 {W W' : World} {p0 p1 p2 p3 : Prop} (h : p0 ∧ p1 ∧ p2 ∧ p3 ∧ Below W.heap.size W W') : Below W.heap.size W W' := h.2.2.2.2

theorem held16 {W W' : World} {p0 p1 p2 p3 p4 p5 p6 p7 p8 p9 p10 p11 p12 p13 p14 p15 : Prop} (h : p0 ∧ p1 ∧ p2 ∧ p3 ∧ p4 ∧ p5 ∧ p6 ∧ p7 ∧ p8 ∧ p9 ∧ p10 ∧ p11 ∧ p12 ∧ p13 ∧ p14 ∧ p15 ∧ Below W.heap.size W W') : Below W.heap.size W W' := h.2.2.2.2.2.2.2.2.2.2.2.2.2.2.2.2

theorem stepB {W w1 w2 : World} (h : Below W.heap.size W w1) (k : Below w1.heap.size w1 w2) : Below W.heap.size W w2 := h.trans (k.mono h.size)

set_option maxRecDepth 100000 in
theorem eqChoice_any (a b : Int) (w : World) :
    Calls Tryz.prog 87 #[.agg #[.int .i64 a, .int .i64 b], .agg #[.int .i64 a, .int .i64 b]] w fun e w' => e = .returned (.bool true) ∧ Below w.heap.size w w' := by
  have hA := (Box.new w 119 #[.int .i64 a, .int .i64 b]).alloc (.cells #[.int .i64 a, .int .i64 b] 119)
  have q0 := hA.cell 0
  have q1 := hA.cell 1
  go_enter Tryz.func87, Tryz.ntmps87
  go_wp2_with fail
  go_ret
  exact ⟨rfl, ((Below.refl _ w).alloc (Nat.le_refl _) _).alloc (by simp) _⟩

set_option maxRecDepth 100000 in
set_option maxHeartbeats 3200000 in
theorem eqChoiceS_any (lo lo' : Nat) (A0 A1 : Option Addr) (n c0 c1 : Nat) (ch : Nat → Int × Int) (w : World) (hn : n ≤ 1048576) (h0 : ChAt lo w A0 n ch) (h1 : ChAt lo' w A1 n ch)  :
    Calls Tryz.prog 76 #[.slice A0 n c0, .slice A1 n c1] w fun e w' => e = .returned (.bool true) ∧ Below w.heap.size w w' := by
  have H0 := Lib.hid h0; clear h0
  have H1 := Lib.hid h1; clear h1
  skip
  go_enter Tryz.func76, Tryz.ntmps76
  go_wp2_with fail
  go_loopg [5] n (fun q iv wr => ∃ k : Nat, k + q = n ∧ iv = .int .i64 (k : Nat) ∧ Below w.heap.size w wr)
  case atStart => exact ⟨0, by omega, rfl, Below.refl _ _⟩
  case round =>
    obtain ⟨k, hk, rfl, hbel⟩ := hrel
    by_cases hk0 : k < n
    · obtain ⟨b, off, rfl, hb, r0, r1⟩ := (H0.out.below hbel (Nat.le_refl _)).at_ hk0
      obtain ⟨b', off', rfl, hb', s0, s1⟩ := (H1.out.below hbel (Nat.le_refl _)).at_ hk0
      have C : Hid (∀ W, Below wr.heap.size wr W → _) := Lib.hid fun W hW => eqChoice_any (ch k).1 (ch k).2 W
      clear H0 H1
      go_upto_region 6 with fail
      go_region_held3 (fun w' => w'.cell? ⟨b, off + k * 2, none⟩ = some (.int .i64 (ch k).1) ∧ w'.cell? ⟨b, off + k * 2 + 1, none⟩ = some (.int .i64 (ch k).2) ∧ w'.cell? ⟨b', off' + k * 2, none⟩ = some (.int .i64 (ch k).1) ∧ w'.cell? ⟨b', off' + k * 2 + 1, none⟩ = some (.int .i64 (ch k).2) ∧ Below wr.heap.size wr w')
        ((suffices hB : Below wr.heap.size wr _ from ⟨(hB.cell hb).trans r0, (hB.cell hb).trans r1, (hB.cell hb').trans s0, (hB.cell hb').trans s1, hB⟩; first | exact (Below.refl _ wr).drew | exact held4 (by assumption) | (refine stepB (held4 (by assumption)) ?_; assumption)))
        ((go_at_call 87; refine (C.out _ (held4 (by assumption))).mono ?_; rintro e w1 ⟨rfl, hb1⟩))
      all_goals go_wp2_with fail
      go_roundg (gk - 1)
      case rel => exact ⟨k + 1, by omega, by go_num, hbel.trans ((held4 (by assumption)).mono hbel.size)⟩
      case measure => omega
    · obtain rfl : k = n := by omega
      go_wp2_with fail
      go_ret
      exact ⟨rfl, hbel⟩

set_option maxRecDepth 100000 in
theorem eqVar_any (a : ByteArray) (b : Int) (w : World) :
    Calls Tryz.prog 53 #[.agg #[.string a, .int .i64 b], .agg #[.string a, .int .i64 b]] w fun e w' => e = .returned (.bool true) ∧ Below w.heap.size w w' := by
  have hA := (Box.new w 82 #[.string a, .int .i64 b]).alloc (.cells #[.string a, .int .i64 b] 82)
  have q0 := hA.cell 0
  have q1 := hA.cell 1
  go_enter Tryz.func53, Tryz.ntmps53
  go_wp2_with fail
  go_ret
  exact ⟨rfl, ((Below.refl _ w).alloc (Nat.le_refl _) _).alloc (by simp) _⟩

set_option maxRecDepth 100000 in
set_option maxHeartbeats 3200000 in
theorem eqVarS_any (lo lo' : Nat) (A0 A1 : Option Addr) (n c0 c1 : Nat) (vn : Nat → ByteArray) (vz : Nat → Int) (w : World) (hn : n ≤ 1048576) (h0 : VrAt lo w A0 n vn vz) (h1 : VrAt lo' w A1 n vn vz)  :
    Calls Tryz.prog 27 #[.slice A0 n c0, .slice A1 n c1] w fun e w' => e = .returned (.bool true) ∧ Below w.heap.size w w' := by
  have H0 := Lib.hid h0; clear h0
  have H1 := Lib.hid h1; clear h1
  skip
  go_enter Tryz.func27, Tryz.ntmps27
  go_wp2_with fail
  go_loopg [5] n (fun q iv wr => ∃ k : Nat, k + q = n ∧ iv = .int .i64 (k : Nat) ∧ Below w.heap.size w wr)
  case atStart => exact ⟨0, by omega, rfl, Below.refl _ _⟩
  case round =>
    obtain ⟨k, hk, rfl, hbel⟩ := hrel
    by_cases hk0 : k < n
    · obtain ⟨b, off, rfl, hb, r0, r1⟩ := (H0.out.below hbel (Nat.le_refl _)).at_ hk0
      obtain ⟨b', off', rfl, hb', s0, s1⟩ := (H1.out.below hbel (Nat.le_refl _)).at_ hk0
      have C : Hid (∀ W, Below wr.heap.size wr W → _) := Lib.hid fun W hW => eqVar_any (vn k) (vz k) W
      clear H0 H1
      go_upto_region 6 with fail
      go_region_held3 (fun w' => w'.cell? ⟨b, off + k * 2, none⟩ = some (.string (vn k)) ∧ w'.cell? ⟨b, off + k * 2 + 1, none⟩ = some (.int .i64 (vz k)) ∧ w'.cell? ⟨b', off' + k * 2, none⟩ = some (.string (vn k)) ∧ w'.cell? ⟨b', off' + k * 2 + 1, none⟩ = some (.int .i64 (vz k)) ∧ Below wr.heap.size wr w')
        ((suffices hB : Below wr.heap.size wr _ from ⟨(hB.cell hb).trans r0, (hB.cell hb).trans r1, (hB.cell hb').trans s0, (hB.cell hb').trans s1, hB⟩; first | exact (Below.refl _ wr).drew | exact held4 (by assumption) | (refine stepB (held4 (by assumption)) ?_; assumption)))
        ((go_at_call 53; refine (C.out _ (held4 (by assumption))).mono ?_; rintro e w1 ⟨rfl, hb1⟩))
      all_goals go_wp2_with fail
      go_roundg (gk - 1)
      case rel => exact ⟨k + 1, by omega, by go_num, hbel.trans ((held4 (by assumption)).mono hbel.size)⟩
      case measure => omega
    · obtain rfl : k = n := by omega
      go_wp2_with fail
      go_ret
      exact ⟨rfl, hbel⟩

set_option maxRecDepth 100000 in
set_option maxHeartbeats 3200000 in
theorem eqProc_any (lo lo' : Nat) (s : ByteArray) (A0 A1 : Option Addr) (m c0 c1 : Nat) (f : Nat → Int) (w : World) (hm : m ≤ 1048576) (h0 : IntsAt lo w A0 m f) (h1 : IntsAt lo' w A1 m f) :
    Calls Tryz.prog 56 #[.agg #[.string s, .slice A0 m c0], .agg #[.string s, .slice A1 m c1]] w fun e w' => e = .returned (.bool true) ∧ Below w.heap.size w w' := by
  have hP := (Box.new w 89 #[.string s, .slice A0 m c0]).alloc (.cells #[.string s, .slice A1 m c1] 89)
  have hQ := Box.new (w.alloc (.cells #[.string s, .slice A0 m c0] 89)) 89 #[.string s, .slice A1 m c1]
  rw [show (w.alloc (.cells #[.string s, .slice A0 m c0] 89)).heap.size = w.heap.size + 1 by simp] at hQ
  have hB : Below w.heap.size w ((w.alloc (.cells #[.string s, .slice A0 m c0] 89)).alloc (.cells #[.string s, .slice A1 m c1] 89)) := ((Below.refl _ w).alloc (Nat.le_refl _) _).alloc (by simp) _
  obtain ⟨q0, q1, qf, qg⟩ := hP.two
  obtain ⟨u0, u1, uf, ug⟩ := hQ.two
  have C1 : Hid (∀ W, Below w.heap.size w W → _) := Lib.hid fun W hW => eqIntS_any lo lo' A0 A1 m c0 c1 f W hm (h0.below hW (Nat.le_refl _)) (h1.below hW (Nat.le_refl _))
  clear hm h0 h1
  go_enter Tryz.func56, Tryz.ntmps56
  go_wp2_with (first
    | (go_at_call 31
       with_reducible refine (C1.out _ hB).mono ?_
       rintro e w1 ⟨rfl, hb⟩
       clear q0 q1 qf qg u0 u1 uf ug
       replace hP := hP.below hb hP.lt
       replace hQ := hQ.below hb hQ.lt
       replace hB := hB.trans (hb.mono hB.size)
       clear hb
       obtain ⟨q0, q1, qf, qg⟩ := hP.two
       obtain ⟨u0, u1, uf, ug⟩ := hQ.two))
  go_ret
  exact ⟨rfl, hB⟩

set_option maxRecDepth 100000 in
set_option maxHeartbeats 3200000 in
theorem eqProcS_any (lo lo' : Nat) (A0 A1 : Option Addr) (n c0 c1 : Nat) (pn : Nat → ByteArray) (pl : Nat → Nat) (pb : Nat → Nat → Int) (w : World) (hn : n ≤ 1048576) (h0 : PrAt lo w A0 n pn pl pb) (h1 : PrAt lo' w A1 n pn pl pb) (hs : ∀ j, j < n → pl j ≤ 1048576) :
    Calls Tryz.prog 30 #[.slice A0 n c0, .slice A1 n c1] w fun e w' => e = .returned (.bool true) ∧ Below w.heap.size w w' := by
  have H0 := Lib.hid h0; clear h0
  have H1 := Lib.hid h1; clear h1
  have HS := Lib.hid hs; clear hs
  go_enter Tryz.func30, Tryz.ntmps30
  go_wp2_with fail
  go_loopg [5] n (fun q iv wr => ∃ k : Nat, k + q = n ∧ iv = .int .i64 (k : Nat) ∧ Below w.heap.size w wr)
  case atStart => exact ⟨0, by omega, rfl, Below.refl _ _⟩
  case round =>
    obtain ⟨k, hk, rfl, hbel⟩ := hrel
    by_cases hk0 : k < n
    · obtain ⟨b, off, A2, c2, rfl, hb, r0, r1, g0⟩ := (H0.out.below hbel (Nat.le_refl _)).at_ hk0
      obtain ⟨b', off', A3, c3, rfl, hb', s0, s1, g1⟩ := (H1.out.below hbel (Nat.le_refl _)).at_ hk0
      have hsk := HS.out k hk0
      have C : Hid (∀ W, Below wr.heap.size wr W → _) := Lib.hid fun W hW => eqProc_any lo lo' (pn k) A2 A3 (pl k) c2 c3 (pb k) W hsk (g0.below hW (Nat.le_refl _)) (g1.below hW (Nat.le_refl _))
      clear H0 H1 g0 g1 hsk
      go_upto_region 6 with fail
      go_region_held3 (fun w' => w'.cell? ⟨b, off + k * 2, none⟩ = some (.string (pn k)) ∧ w'.cell? ⟨b, off + k * 2 + 1, none⟩ = some (.slice A2 (pl k) c2) ∧ w'.cell? ⟨b', off' + k * 2, none⟩ = some (.string (pn k)) ∧ w'.cell? ⟨b', off' + k * 2 + 1, none⟩ = some (.slice A3 (pl k) c3) ∧ Below wr.heap.size wr w')
        ((suffices hB : Below wr.heap.size wr _ from ⟨(hB.cell hb).trans r0, (hB.cell hb).trans r1, (hB.cell hb').trans s0, (hB.cell hb').trans s1, hB⟩; first | exact (Below.refl _ wr).drew | exact held4 (by assumption) | (refine stepB (held4 (by assumption)) ?_; assumption)))
        ((go_at_call 56; refine (C.out _ (held4 (by assumption))).mono ?_; rintro e w1 ⟨rfl, hb1⟩))
      all_goals go_wp2_with fail
      go_roundg (gk - 1)
      case rel => exact ⟨k + 1, by omega, by go_num, hbel.trans ((held4 (by assumption)).mono hbel.size)⟩
      case measure => omega
    · obtain rfl : k = n := by omega
      go_wp2_with fail
      go_ret
      exact ⟨rfl, hbel⟩

set_option maxRecDepth 100000 in
set_option maxHeartbeats 3200000 in
theorem eqStmt_any (lo lo' : Nat) (s : Stm) (A3 A4 A5 B3 B4 B5 : Option Addr) (c3 c4 c5 d3 d4 d5 : Nat) (w : World) (hs : s.small) (h3 : ChAt lo w A3 s.nc s.ch) (h4 : IntsAt lo w A4 s.nt s.th) (h5 : IntsAt lo w A5 s.ne s.el) (k3 : ChAt lo' w B3 s.nc s.ch) (k4 : IntsAt lo' w B4 s.nt s.th) (k5 : IntsAt lo' w B5 s.ne s.el) :
    Calls Tryz.prog 55 #[.agg #[.int .i64 s.kind, .int .i64 s.var, .int .i64 s.ex, .slice A3 s.nc c3, .slice A4 s.nt c4, .slice A5 s.ne c5, .int .i64 s.times, .int .i64 s.proc], .agg #[.int .i64 s.kind, .int .i64 s.var, .int .i64 s.ex, .slice B3 s.nc d3, .slice B4 s.nt d4, .slice B5 s.ne d5, .int .i64 s.times, .int .i64 s.proc]] w fun e w' => e = .returned (.bool true) ∧ Below w.heap.size w w' := by
  have hP := (Box.new w 77 #[.int .i64 s.kind, .int .i64 s.var, .int .i64 s.ex, .slice A3 s.nc c3, .slice A4 s.nt c4, .slice A5 s.ne c5, .int .i64 s.times, .int .i64 s.proc]).alloc (.cells #[.int .i64 s.kind, .int .i64 s.var, .int .i64 s.ex, .slice B3 s.nc d3, .slice B4 s.nt d4, .slice B5 s.ne d5, .int .i64 s.times, .int .i64 s.proc] 77)
  have hQ := Box.new (w.alloc (.cells #[.int .i64 s.kind, .int .i64 s.var, .int .i64 s.ex, .slice A3 s.nc c3, .slice A4 s.nt c4, .slice A5 s.ne c5, .int .i64 s.times, .int .i64 s.proc] 77)) 77 #[.int .i64 s.kind, .int .i64 s.var, .int .i64 s.ex, .slice B3 s.nc d3, .slice B4 s.nt d4, .slice B5 s.ne d5, .int .i64 s.times, .int .i64 s.proc]
  rw [show (w.alloc (.cells #[.int .i64 s.kind, .int .i64 s.var, .int .i64 s.ex, .slice A3 s.nc c3, .slice A4 s.nt c4, .slice A5 s.ne c5, .int .i64 s.times, .int .i64 s.proc] 77)).heap.size = w.heap.size + 1 by simp] at hQ
  have hB : Below w.heap.size w ((w.alloc (.cells #[.int .i64 s.kind, .int .i64 s.var, .int .i64 s.ex, .slice A3 s.nc c3, .slice A4 s.nt c4, .slice A5 s.ne c5, .int .i64 s.times, .int .i64 s.proc] 77)).alloc (.cells #[.int .i64 s.kind, .int .i64 s.var, .int .i64 s.ex, .slice B3 s.nc d3, .slice B4 s.nt d4, .slice B5 s.ne d5, .int .i64 s.times, .int .i64 s.proc] 77)) := ((Below.refl _ w).alloc (Nat.le_refl _) _).alloc (by simp) _
  obtain ⟨q0, q1, q2, q3, q4, q5, q6, q7, qf⟩ := hP.eight
  obtain ⟨u0, u1, u2, u3, u4, u5, u6, u7, uf⟩ := hQ.eight
  have C3 : Hid (∀ W, Below w.heap.size w W → _) := Lib.hid fun W hW => eqChoiceS_any lo lo' A3 B3 s.nc c3 d3 s.ch W hs.nc (h3.below hW (Nat.le_refl _)) (k3.below hW (Nat.le_refl _))
  have C4 : Hid (∀ W, Below w.heap.size w W → _) := Lib.hid fun W hW => eqIntS_any lo lo' A4 B4 s.nt c4 d4 s.th W hs.nt (h4.below hW (Nat.le_refl _)) (k4.below hW (Nat.le_refl _))
  have C5 : Hid (∀ W, Below w.heap.size w W → _) := Lib.hid fun W hW => eqIntS_any lo lo' A5 B5 s.ne c5 d5 s.el W hs.ne (h5.below hW (Nat.le_refl _)) (k5.below hW (Nat.le_refl _))
  clear hs h3 h4 h5 k3 k4 k5
  go_enter Tryz.func55, Tryz.ntmps55
  go_wp2_with (first
    | (go_at_call 76
       with_reducible refine (C3.out _ hB).mono ?_
       rintro e w1 ⟨rfl, hb⟩
       clear q0 q1 q2 q3 q4 q5 q6 q7 qf u0 u1 u2 u3 u4 u5 u6 u7 uf
       replace hP := hP.below hb hP.lt
       replace hQ := hQ.below hb hQ.lt
       replace hB := hB.trans (hb.mono hB.size)
       clear hb
       obtain ⟨q0, q1, q2, q3, q4, q5, q6, q7, qf⟩ := hP.eight
       obtain ⟨u0, u1, u2, u3, u4, u5, u6, u7, uf⟩ := hQ.eight)
    | (go_at_call 31
       with_reducible refine (C4.out _ hB).mono ?_
       rintro e w1 ⟨rfl, hb⟩
       clear q0 q1 q2 q3 q4 q5 q6 q7 qf u0 u1 u2 u3 u4 u5 u6 u7 uf
       replace hP := hP.below hb hP.lt
       replace hQ := hQ.below hb hQ.lt
       replace hB := hB.trans (hb.mono hB.size)
       clear hb
       obtain ⟨q0, q1, q2, q3, q4, q5, q6, q7, qf⟩ := hP.eight
       obtain ⟨u0, u1, u2, u3, u4, u5, u6, u7, uf⟩ := hQ.eight)
    | (go_at_call 31
       with_reducible refine (C5.out _ hB).mono ?_
       rintro e w1 ⟨rfl, hb⟩
       clear q0 q1 q2 q3 q4 q5 q6 q7 qf u0 u1 u2 u3 u4 u5 u6 u7 uf
       replace hP := hP.below hb hP.lt
       replace hQ := hQ.below hb hQ.lt
       replace hB := hB.trans (hb.mono hB.size)
       clear hb
       obtain ⟨q0, q1, q2, q3, q4, q5, q6, q7, qf⟩ := hP.eight
       obtain ⟨u0, u1, u2, u3, u4, u5, u6, u7, uf⟩ := hQ.eight))
  go_ret
  exact ⟨rfl, hB⟩

set_option maxRecDepth 100000 in
set_option maxHeartbeats 3200000 in
theorem eqStmtS_any (lo lo' : Nat) (A0 A1 : Option Addr) (n c0 c1 : Nat) (st : Nat → Stm) (w : World) (hn : n ≤ 1048576) (h0 : StAt lo w A0 n st) (h1 : StAt lo' w A1 n st) (hs : ∀ j, j < n → (st j).small) :
    Calls Tryz.prog 29 #[.slice A0 n c0, .slice A1 n c1] w fun e w' => e = .returned (.bool true) ∧ Below w.heap.size w w' := by
  have H0 := Lib.hid h0; clear h0
  have H1 := Lib.hid h1; clear h1
  have HS := Lib.hid hs; clear hs
  go_enter Tryz.func29, Tryz.ntmps29
  go_wp2_with fail
  go_loopg [5] n (fun q iv wr => ∃ k : Nat, k + q = n ∧ iv = .int .i64 (k : Nat) ∧ Below w.heap.size w wr)
  case atStart => exact ⟨0, by omega, rfl, Below.refl _ _⟩
  case round =>
    obtain ⟨k, hk, rfl, hbel⟩ := hrel
    by_cases hk0 : k < n
    · obtain ⟨b, off, A3, c3, A4, c4, A5, c5, rfl, hb, r0, r1, r2, r3, r4, r5, r6, r7, g3, g4, g5⟩ := (H0.out.below hbel (Nat.le_refl _)).at_ hk0
      obtain ⟨b', off', B3, d3, B4, d4, B5, d5, rfl, hb', s0, s1, s2, s3, s4, s5, s6, s7, e3, e4, e5⟩ := (H1.out.below hbel (Nat.le_refl _)).at_ hk0
      have hsk := HS.out k hk0
      have C : Hid (∀ W, Below wr.heap.size wr W → _) := Lib.hid fun W hW => eqStmt_any lo lo' (st k) A3 A4 A5 B3 B4 B5 c3 c4 c5 d3 d4 d5 W hsk (g3.below hW (Nat.le_refl _)) (g4.below hW (Nat.le_refl _)) (g5.below hW (Nat.le_refl _)) (e3.below hW (Nat.le_refl _)) (e4.below hW (Nat.le_refl _)) (e5.below hW (Nat.le_refl _))
      clear H0 H1 g3 g4 g5 e3 e4 e5 hsk
      go_upto_region 6 with fail
      go_region_held3 (fun w' => w'.cell? ⟨b, off + k * 8, none⟩ = some (.int .i64 (st k).kind) ∧ w'.cell? ⟨b, off + k * 8 + 1, none⟩ = some (.int .i64 (st k).var) ∧ w'.cell? ⟨b, off + k * 8 + 2, none⟩ = some (.int .i64 (st k).ex) ∧ w'.cell? ⟨b, off + k * 8 + 3, none⟩ = some (.slice A3 (st k).nc c3) ∧ w'.cell? ⟨b, off + k * 8 + 4, none⟩ = some (.slice A4 (st k).nt c4) ∧ w'.cell? ⟨b, off + k * 8 + 5, none⟩ = some (.slice A5 (st k).ne c5) ∧ w'.cell? ⟨b, off + k * 8 + 6, none⟩ = some (.int .i64 (st k).times) ∧ w'.cell? ⟨b, off + k * 8 + 7, none⟩ = some (.int .i64 (st k).proc) ∧ w'.cell? ⟨b', off' + k * 8, none⟩ = some (.int .i64 (st k).kind) ∧ w'.cell? ⟨b', off' + k * 8 + 1, none⟩ = some (.int .i64 (st k).var) ∧ w'.cell? ⟨b', off' + k * 8 + 2, none⟩ = some (.int .i64 (st k).ex) ∧ w'.cell? ⟨b', off' + k * 8 + 3, none⟩ = some (.slice B3 (st k).nc d3) ∧ w'.cell? ⟨b', off' + k * 8 + 4, none⟩ = some (.slice B4 (st k).nt d4) ∧ w'.cell? ⟨b', off' + k * 8 + 5, none⟩ = some (.slice B5 (st k).ne d5) ∧ w'.cell? ⟨b', off' + k * 8 + 6, none⟩ = some (.int .i64 (st k).times) ∧ w'.cell? ⟨b', off' + k * 8 + 7, none⟩ = some (.int .i64 (st k).proc) ∧ Below wr.heap.size wr w')
        ((suffices hB : Below wr.heap.size wr _ from ⟨(hB.cell hb).trans r0, (hB.cell hb).trans r1, (hB.cell hb).trans r2, (hB.cell hb).trans r3, (hB.cell hb).trans r4, (hB.cell hb).trans r5, (hB.cell hb).trans r6, (hB.cell hb).trans r7, (hB.cell hb').trans s0, (hB.cell hb').trans s1, (hB.cell hb').trans s2, (hB.cell hb').trans s3, (hB.cell hb').trans s4, (hB.cell hb').trans s5, (hB.cell hb').trans s6, (hB.cell hb').trans s7, hB⟩; first | exact (Below.refl _ wr).drew | exact held16 (by assumption) | (refine stepB (held16 (by assumption)) ?_; assumption)))
        ((go_at_call 55; refine (C.out _ (held16 (by assumption))).mono ?_; rintro e w1 ⟨rfl, hb1⟩))
      all_goals go_wp2_with fail
      go_roundg (gk - 1)
      case rel => exact ⟨k + 1, by omega, by go_num, hbel.trans ((held16 (by assumption)).mono hbel.size)⟩
      case measure => omega
    · obtain rfl : k = n := by omega
      go_wp2_with fail
      go_ret
      exact ⟨rfl, hbel⟩

set_option maxRecDepth 100000 in
set_option maxHeartbeats 3200000 in
theorem eqProgram_any (lo lo' : Nat) (P : Prg) (Av Ax As Ap Ab Bv Bx Bs Bp Bb : Option Addr) (cv cx cs cp cb dv dx ds dp db : Nat) (w : World) (hs : P.small) (h : PgAt lo w Av Ax As Ap Ab P) (k : PgAt lo' w Bv Bx Bs Bp Bb P) :
    Calls Tryz.prog 8 #[.agg #[.slice Av P.nv cv, .slice Ax P.nx cx, .slice As P.ns cs, .slice Ap P.np cp, .slice Ab P.nb cb, .int .i64 P.fuel], .agg #[.slice Bv P.nv dv, .slice Bx P.nx dx, .slice Bs P.ns ds, .slice Bp P.np dp, .slice Bb P.nb db, .int .i64 P.fuel]] w fun e w' => e = .returned (.bool true) ∧ Below w.heap.size w w' := by
  have hP := (Box.new w 37 #[.slice Av P.nv cv, .slice Ax P.nx cx, .slice As P.ns cs, .slice Ap P.np cp, .slice Ab P.nb cb, .int .i64 P.fuel]).alloc (.cells #[.slice Bv P.nv dv, .slice Bx P.nx dx, .slice Bs P.ns ds, .slice Bp P.np dp, .slice Bb P.nb db, .int .i64 P.fuel] 37)
  have hQ := Box.new (w.alloc (.cells #[.slice Av P.nv cv, .slice Ax P.nx cx, .slice As P.ns cs, .slice Ap P.np cp, .slice Ab P.nb cb, .int .i64 P.fuel] 37)) 37 #[.slice Bv P.nv dv, .slice Bx P.nx dx, .slice Bs P.ns ds, .slice Bp P.np dp, .slice Bb P.nb db, .int .i64 P.fuel]
  rw [show (w.alloc (.cells #[.slice Av P.nv cv, .slice Ax P.nx cx, .slice As P.ns cs, .slice Ap P.np cp, .slice Ab P.nb cb, .int .i64 P.fuel] 37)).heap.size = w.heap.size + 1 by simp] at hQ
  have hB : Below w.heap.size w ((w.alloc (.cells #[.slice Av P.nv cv, .slice Ax P.nx cx, .slice As P.ns cs, .slice Ap P.np cp, .slice Ab P.nb cb, .int .i64 P.fuel] 37)).alloc (.cells #[.slice Bv P.nv dv, .slice Bx P.nx dx, .slice Bs P.ns ds, .slice Bp P.np dp, .slice Bb P.nb db, .int .i64 P.fuel] 37)) := ((Below.refl _ w).alloc (Nat.le_refl _) _).alloc (by simp) _
  obtain ⟨q0, q1, q2, q3, q4, q5, qf⟩ := hP.six
  obtain ⟨u0, u1, u2, u3, u4, u5, uf⟩ := hQ.six
  have C0 : Hid (∀ W, Below w.heap.size w W → _) := Lib.hid fun W hW => eqVarS_any lo lo' Av Bv P.nv cv dv P.vn P.vz W hs.nv (h.v.below hW (Nat.le_refl _)) (k.v.below hW (Nat.le_refl _))
  have C1 : Hid (∀ W, Below w.heap.size w W → _) := Lib.hid fun W hW => eqExS_any Ax Bx P.nx cx dx P.ex W hs.nx (h.x.below hW (Nat.le_refl _)).1 (k.x.below hW (Nat.le_refl _)).1
  have C2 : Hid (∀ W, Below w.heap.size w W → _) := Lib.hid fun W hW => eqStmtS_any lo lo' As Bs P.ns cs ds P.st W hs.ns (h.s.below hW (Nat.le_refl _)) (k.s.below hW (Nat.le_refl _)) hs.st
  have C3 : Hid (∀ W, Below w.heap.size w W → _) := Lib.hid fun W hW => eqProcS_any lo lo' Ap Bp P.np cp dp P.pn P.pl P.pb W hs.np (h.p.below hW (Nat.le_refl _)) (k.p.below hW (Nat.le_refl _)) hs.pl
  have C4 : Hid (∀ W, Below w.heap.size w W → _) := Lib.hid fun W hW => eqIntS_any lo lo' Ab Bb P.nb cb db P.bd W hs.nb (h.b.below hW (Nat.le_refl _)) (k.b.below hW (Nat.le_refl _))
  clear hs h k
  go_enter Tryz.func8, Tryz.ntmps8
  go_wp2_with (first
    | (go_at_call 27
       with_reducible refine (C0.out _ hB).mono ?_
       rintro e w1 ⟨rfl, hb⟩
       clear q0 q1 q2 q3 q4 q5 qf u0 u1 u2 u3 u4 u5 uf
       replace hP := hP.below hb hP.lt
       replace hQ := hQ.below hb hQ.lt
       replace hB := hB.trans (hb.mono hB.size)
       clear hb
       obtain ⟨q0, q1, q2, q3, q4, q5, qf⟩ := hP.six
       obtain ⟨u0, u1, u2, u3, u4, u5, uf⟩ := hQ.six)
    | (go_at_call 28
       with_reducible refine (C1.out _ hB).mono ?_
       rintro e w1 ⟨rfl, hb⟩
       clear q0 q1 q2 q3 q4 q5 qf u0 u1 u2 u3 u4 u5 uf
       replace hP := hP.below hb hP.lt
       replace hQ := hQ.below hb hQ.lt
       replace hB := hB.trans (hb.mono hB.size)
       clear hb
       obtain ⟨q0, q1, q2, q3, q4, q5, qf⟩ := hP.six
       obtain ⟨u0, u1, u2, u3, u4, u5, uf⟩ := hQ.six)
    | (go_at_call 29
       with_reducible refine (C2.out _ hB).mono ?_
       rintro e w1 ⟨rfl, hb⟩
       clear q0 q1 q2 q3 q4 q5 qf u0 u1 u2 u3 u4 u5 uf
       replace hP := hP.below hb hP.lt
       replace hQ := hQ.below hb hQ.lt
       replace hB := hB.trans (hb.mono hB.size)
       clear hb
       obtain ⟨q0, q1, q2, q3, q4, q5, qf⟩ := hP.six
       obtain ⟨u0, u1, u2, u3, u4, u5, uf⟩ := hQ.six)
    | (go_at_call 30
       with_reducible refine (C3.out _ hB).mono ?_
       rintro e w1 ⟨rfl, hb⟩
       clear q0 q1 q2 q3 q4 q5 qf u0 u1 u2 u3 u4 u5 uf
       replace hP := hP.below hb hP.lt
       replace hQ := hQ.below hb hQ.lt
       replace hB := hB.trans (hb.mono hB.size)
       clear hb
       obtain ⟨q0, q1, q2, q3, q4, q5, qf⟩ := hP.six
       obtain ⟨u0, u1, u2, u3, u4, u5, uf⟩ := hQ.six)
    | (go_at_call 31
       with_reducible refine (C4.out _ hB).mono ?_
       rintro e w1 ⟨rfl, hb⟩
       clear q0 q1 q2 q3 q4 q5 qf u0 u1 u2 u3 u4 u5 uf
       replace hP := hP.below hb hP.lt
       replace hQ := hQ.below hb hQ.lt
       replace hB := hB.trans (hb.mono hB.size)
       clear hb
       obtain ⟨q0, q1, q2, q3, q4, q5, qf⟩ := hP.six
       obtain ⟨u0, u1, u2, u3, u4, u5, uf⟩ := hQ.six))
  go_ret
  exact ⟨rfl, hB⟩

end Go.Proofs.YtoaiejodbmkbjaaGreatDoor
