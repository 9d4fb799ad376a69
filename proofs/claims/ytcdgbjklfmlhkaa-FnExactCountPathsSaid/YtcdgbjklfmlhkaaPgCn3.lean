/-
  The bound on the number of paths: blocks. (Written by gen_pgcn.py.)
-/
import Derived.Test.YtcdgbjklfmlhkaaPgCn2
import Derived.Deep.RegionHeld3
namespace Go.Proofs.Ytcdgbjklfmlhkaa
open Go.RowKit Num

theorem held14p {W W' : World} {p0 p1 p2 p3 p4 p5 p6 p7 p8 p9 p10 p11 p12 p13 : Prop} (h : p0 ∧ p1 ∧ p2 ∧ p3 ∧ p4 ∧ p5 ∧ p6 ∧ p7 ∧ p8 ∧ p9 ∧ p10 ∧ p11 ∧ p12 ∧ p13 ∧ Below W.heap.size W W') : Below W.heap.size W W' := h.2.2.2.2.2.2.2.2.2.2.2.2.2.2
theorem stepB' {W w1 w2 : World} (h : Below W.heap.size W w1) (k : Below w1.heap.size w1 w2) : Below W.heap.size W w2 := h.trans (k.mono h.size)

set_option maxRecDepth 100000 in
set_option maxHeartbeats 6400000 in
theorem blkS_of (P : Prg) (d f : Nat) (h : SCS P d f) : BCS P d f := by
  intro lo n b Av Ax As Ap Ab A1 cv cx cs cp cb c1 w hp hn hb hi
  have hP := Box.new w 37 #[.slice Av P.nv cv, .slice Ax P.nx cx, .slice As P.ns cs, .slice Ap P.np cp, .slice Ab P.nb cb, .int .i64 P.fuel]
  have hB := (Below.refl w.heap.size w).alloc (Nat.le_refl _) (.cells #[.slice Av P.nv cv, .slice Ax P.nx cx, .slice As P.ns cs, .slice Ap P.np cp, .slice Ab P.nb cb, .int .i64 P.fuel] 37)
  obtain ⟨q0, q1, q2, q3, q4, q5, qf⟩ := hP.six
  have HP := Lib.hid hp
  have HS := Lib.hid h
  have HI := Lib.hid hi
  have HBD := Lib.hid hb
  clear hp h hi hb
  go_enter Try.func73, Try.ntmps73
  go_wp2_with fail
  clear q0 q1 q2 q3 q4 q5 qf
  obtain ⟨w1, hw1⟩ : ∃ w1, w1 = w.alloc (.cells #[.slice Av P.nv cv, .slice Ax P.nx cx, .slice As P.ns cs, .slice Ap P.np cp, .slice Ab P.nb cb, .int .i64 P.fuel] 37) := ⟨_, rfl⟩
  rw [← hw1] at hP hB ⊢
  clear hw1
  go_loopg [7, 12] n (fun q sv iv wr => ∃ (k : Nat) (x : Int), k + q = n ∧ iv = .int .i64 (k : Nat) ∧ sv = .int .i64 x ∧ Hid (x = blkV (pD P (pF P f) d) b k) ∧ Below w1.heap.size w1 wr)
  case atStart => exact ⟨0, 1, by omega, rfl, rfl, Lib.hid rfl, Below.refl _ _⟩
  case round =>
    rename World => w4
    obtain ⟨k, x, hk, rfl, rfl, hx, hbel⟩ := hrel
    replace hP := hP.below hbel hP.lt
    replace hB := hB.trans (hbel.mono hB.size)
    by_cases hk0 : k < n
    · obtain ⟨hb0, hb1, hb2⟩ := HBD.out k hk0
      obtain ⟨m, hm⟩ : ∃ m : Nat, b k = (m : Int) := ⟨(b k).toNat, by omega⟩
      have hp4 := HP.out.below hB (Nat.le_refl _)
      obtain ⟨ba, oa, rfl, hba, s0⟩ := (HI.out.below hB (Nat.le_refl _)).at_ hk0
      rw [hm] at s0
      obtain ⟨bs, os, A3, c3, A4, c4, A5, c5, rfl, hbs, r0, r1, r2, r3, r4, r5, r6, r7, g3, g4, g5⟩ := hp4.s.at_ (show m < P.ns by omega)
      have hbx := bd_mul (x := x) (y := pD P (pF P f) d (m : Nat)) (by rw [hx.out]; exact blkV_bd fun _ _ => pD_bd (pF_bd f) _ _) (pD_bd (pF_bd f) _ _)
      have hnext : lim (x * pD P (pF P f) d (m : Nat)) = blkV (pD P (pF P f) d) b (k + 1) := by rw [blkV, ← hx.out, hm]
      have CS : Hid (∀ W, Below w4.heap.size w4 W → _) := Lib.hid fun W hW => HS.out lo m Av Ax (some ⟨bs, os, none⟩) Ap Ab A3 A4 A5 cv cx cs cp cb c3 c4 c5 W (hp4.below hW (Nat.le_refl _)) (by omega) (by omega) (g4.below hW (Nat.le_refl _)) (g5.below hW (Nat.le_refl _))
      generalize pD P (pF P f) d (m : Nat) = y at CS hbx hnext
      have wx : IntKind.i64.wrap (x * y) = x * y := IntWalk.i64_in _ (by omega)
      have CL : Hid (∀ W, _) := Lib.hid fun W => cap_any (x * y) W
      have hmn : (m : Int) < (P.ns : Int) := by omega
      have HN := Lib.hid hnext
      have hPl := hP.lt
      obtain ⟨q0, q1, q2, q3, q4, q5, qf⟩ := hP.six
      clear hb0 hb1 hb2 hm g3 g4 g5 hbx hnext hp4
      go_upto_region 5 with fail
      go_region_held3 (fun w' => w'.cell? ⟨w.heap.size, 0, none⟩ = some (.slice Av P.nv cv) ∧ w'.cell? ⟨w.heap.size, 1, none⟩ = some (.slice Ax P.nx cx) ∧ w'.cell? ⟨w.heap.size, 2, none⟩ = some (.slice (some ⟨bs, os, none⟩) P.ns cs) ∧ w'.cell? ⟨w.heap.size, 3, none⟩ = some (.slice Ap P.np cp) ∧ w'.cell? ⟨w.heap.size, 4, none⟩ = some (.slice Ab P.nb cb) ∧ w'.cell? ⟨w.heap.size, 5, none⟩ = some (.int .i64 P.fuel) ∧ w'.cell? ⟨bs, os + m * 8, none⟩ = some (.int .i64 (P.st m).kind) ∧ w'.cell? ⟨bs, os + m * 8 + 1, none⟩ = some (.int .i64 (P.st m).var) ∧ w'.cell? ⟨bs, os + m * 8 + 2, none⟩ = some (.int .i64 (P.st m).ex) ∧ w'.cell? ⟨bs, os + m * 8 + 3, none⟩ = some (.slice A3 (P.st m).nc c3) ∧ w'.cell? ⟨bs, os + m * 8 + 4, none⟩ = some (.slice A4 (P.st m).nt c4) ∧ w'.cell? ⟨bs, os + m * 8 + 5, none⟩ = some (.slice A5 (P.st m).ne c5) ∧ w'.cell? ⟨bs, os + m * 8 + 6, none⟩ = some (.int .i64 (P.st m).times) ∧ w'.cell? ⟨bs, os + m * 8 + 7, none⟩ = some (.int .i64 (P.st m).proc) ∧ Below w4.heap.size w4 w')
        ((suffices hBB : Below w4.heap.size w4 _ from ⟨(hBB.cell (p := ⟨w.heap.size, 0, none⟩) hPl).trans q0, (hBB.cell (p := ⟨w.heap.size, 1, none⟩) hPl).trans q1, (hBB.cell (p := ⟨w.heap.size, 2, none⟩) hPl).trans q2, (hBB.cell (p := ⟨w.heap.size, 3, none⟩) hPl).trans q3, (hBB.cell (p := ⟨w.heap.size, 4, none⟩) hPl).trans q4, (hBB.cell (p := ⟨w.heap.size, 5, none⟩) hPl).trans q5, (hBB.cell (p := ⟨bs, os + m * 8, none⟩) hbs).trans r0, (hBB.cell (p := ⟨bs, os + m * 8 + 1, none⟩) hbs).trans r1, (hBB.cell (p := ⟨bs, os + m * 8 + 2, none⟩) hbs).trans r2, (hBB.cell (p := ⟨bs, os + m * 8 + 3, none⟩) hbs).trans r3, (hBB.cell (p := ⟨bs, os + m * 8 + 4, none⟩) hbs).trans r4, (hBB.cell (p := ⟨bs, os + m * 8 + 5, none⟩) hbs).trans r5, (hBB.cell (p := ⟨bs, os + m * 8 + 6, none⟩) hbs).trans r6, (hBB.cell (p := ⟨bs, os + m * 8 + 7, none⟩) hbs).trans r7, hBB⟩; first | exact (Below.refl _ w4).drew | exact held14p (by assumption) | (refine stepB' (held14p (by assumption)) ?_; assumption)))
        (first
          | (go_at_call 121; refine (CS.out _ (held14p (by assumption))).mono ?_; rintro e w5 ⟨rfl, hb5⟩)
          | (go_at_call 120; refine (CL.out _).mono ?_; rintro e w6 ⟨rfl, rfl⟩))
      all_goals have hq := hbel.trans ((held14p (by assumption)).mono hbel.size)
      all_goals go_wp2_with fail
      all_goals go_roundg (gk - 1)
      case rel => exact ⟨k + 1, _, by omega, by go_num, rfl, HN, hq⟩
      case measure => omega
    · obtain rfl : k = n := by omega
      go_wp2_with fail
      go_ret
      exact ⟨congrArg (fun z => Ending.returned (.int .i64 z)) hx.out, hB⟩

set_option maxRecDepth 100000 in
set_option maxHeartbeats 6400000 in
theorem blkI_of (P : Prg) (d f : Nat) (h : SCI P d f) : BCI P d f := by
  intro lo n b Av Ax As Ap Ab A1 cv cx cs cp cb c1 w hp hn hb hi
  have hP := Box.new w 37 #[.slice Av P.nv cv, .slice Ax P.nx cx, .slice As P.ns cs, .slice Ap P.np cp, .slice Ab P.nb cb, .int .i64 P.fuel]
  have hB := (Below.refl w.heap.size w).alloc (Nat.le_refl _) (.cells #[.slice Av P.nv cv, .slice Ax P.nx cx, .slice As P.ns cs, .slice Ap P.np cp, .slice Ab P.nb cb, .int .i64 P.fuel] 37)
  obtain ⟨q0, q1, q2, q3, q4, q5, qf⟩ := hP.six
  have HP := Lib.hid hp
  have HS := Lib.hid h
  have HI := Lib.hid hi
  have HBD := Lib.hid hb
  clear hp h hi hb
  go_enter Try.func74, Try.ntmps74
  go_wp2_with fail
  clear q0 q1 q2 q3 q4 q5 qf
  obtain ⟨w1, hw1⟩ : ∃ w1, w1 = w.alloc (.cells #[.slice Av P.nv cv, .slice Ax P.nx cx, .slice As P.ns cs, .slice Ap P.np cp, .slice Ab P.nb cb, .int .i64 P.fuel] 37) := ⟨_, rfl⟩
  rw [← hw1] at hP hB ⊢
  clear hw1
  go_loopg [7, 12] n (fun q sv iv wr => ∃ (k : Nat) (x : Int), k + q = n ∧ iv = .int .i64 (k : Nat) ∧ sv = .int .i64 x ∧ Hid (x = blkV (pD P (pF P f) d) b k) ∧ Below w1.heap.size w1 wr)
  case atStart => exact ⟨0, 1, by omega, rfl, rfl, Lib.hid rfl, Below.refl _ _⟩
  case round =>
    rename World => w4
    obtain ⟨k, x, hk, rfl, rfl, hx, hbel⟩ := hrel
    replace hP := hP.below hbel hP.lt
    replace hB := hB.trans (hbel.mono hB.size)
    by_cases hk0 : k < n
    · obtain ⟨hb0, hb1, hb2⟩ := HBD.out k hk0
      obtain ⟨m, hm⟩ : ∃ m : Nat, b k = (m : Int) := ⟨(b k).toNat, by omega⟩
      have hp4 := HP.out.below hB (Nat.le_refl _)
      obtain ⟨ba, oa, rfl, hba, s0⟩ := (HI.out.below hB (Nat.le_refl _)).at_ hk0
      rw [hm] at s0
      obtain ⟨bs, os, A3, c3, A4, c4, A5, c5, rfl, hbs, r0, r1, r2, r3, r4, r5, r6, r7, g3, g4, g5⟩ := hp4.s.at_ (show m < P.ns by omega)
      have hbx := bd_mul (x := x) (y := pD P (pF P f) d (m : Nat)) (by rw [hx.out]; exact blkV_bd fun _ _ => pD_bd (pF_bd f) _ _) (pD_bd (pF_bd f) _ _)
      have hnext : lim (x * pD P (pF P f) d (m : Nat)) = blkV (pD P (pF P f) d) b (k + 1) := by rw [blkV, ← hx.out, hm]
      have CS : Hid (∀ W, Below w4.heap.size w4 W → _) := Lib.hid fun W hW => HS.out lo m Av Ax (some ⟨bs, os, none⟩) Ap Ab A3 A4 A5 cv cx cs cp cb c3 c4 c5 W (hp4.below hW (Nat.le_refl _)) (by omega) (by omega) (g4.below hW (Nat.le_refl _)) (g5.below hW (Nat.le_refl _))
      generalize pD P (pF P f) d (m : Nat) = y at CS hbx hnext
      have wx : IntKind.i64.wrap (x * y) = x * y := IntWalk.i64_in _ (by omega)
      have CL : Hid (∀ W, _) := Lib.hid fun W => lim_any (x * y) W
      have hmn : (m : Int) < (P.ns : Int) := by omega
      have HN := Lib.hid hnext
      have hPl := hP.lt
      obtain ⟨q0, q1, q2, q3, q4, q5, qf⟩ := hP.six
      clear hb0 hb1 hb2 hm g3 g4 g5 hbx hnext hp4
      go_upto_region 5 with fail
      go_region_held3 (fun w' => w'.cell? ⟨w.heap.size, 0, none⟩ = some (.slice Av P.nv cv) ∧ w'.cell? ⟨w.heap.size, 1, none⟩ = some (.slice Ax P.nx cx) ∧ w'.cell? ⟨w.heap.size, 2, none⟩ = some (.slice (some ⟨bs, os, none⟩) P.ns cs) ∧ w'.cell? ⟨w.heap.size, 3, none⟩ = some (.slice Ap P.np cp) ∧ w'.cell? ⟨w.heap.size, 4, none⟩ = some (.slice Ab P.nb cb) ∧ w'.cell? ⟨w.heap.size, 5, none⟩ = some (.int .i64 P.fuel) ∧ w'.cell? ⟨bs, os + m * 8, none⟩ = some (.int .i64 (P.st m).kind) ∧ w'.cell? ⟨bs, os + m * 8 + 1, none⟩ = some (.int .i64 (P.st m).var) ∧ w'.cell? ⟨bs, os + m * 8 + 2, none⟩ = some (.int .i64 (P.st m).ex) ∧ w'.cell? ⟨bs, os + m * 8 + 3, none⟩ = some (.slice A3 (P.st m).nc c3) ∧ w'.cell? ⟨bs, os + m * 8 + 4, none⟩ = some (.slice A4 (P.st m).nt c4) ∧ w'.cell? ⟨bs, os + m * 8 + 5, none⟩ = some (.slice A5 (P.st m).ne c5) ∧ w'.cell? ⟨bs, os + m * 8 + 6, none⟩ = some (.int .i64 (P.st m).times) ∧ w'.cell? ⟨bs, os + m * 8 + 7, none⟩ = some (.int .i64 (P.st m).proc) ∧ Below w4.heap.size w4 w')
        ((suffices hBB : Below w4.heap.size w4 _ from ⟨(hBB.cell (p := ⟨w.heap.size, 0, none⟩) hPl).trans q0, (hBB.cell (p := ⟨w.heap.size, 1, none⟩) hPl).trans q1, (hBB.cell (p := ⟨w.heap.size, 2, none⟩) hPl).trans q2, (hBB.cell (p := ⟨w.heap.size, 3, none⟩) hPl).trans q3, (hBB.cell (p := ⟨w.heap.size, 4, none⟩) hPl).trans q4, (hBB.cell (p := ⟨w.heap.size, 5, none⟩) hPl).trans q5, (hBB.cell (p := ⟨bs, os + m * 8, none⟩) hbs).trans r0, (hBB.cell (p := ⟨bs, os + m * 8 + 1, none⟩) hbs).trans r1, (hBB.cell (p := ⟨bs, os + m * 8 + 2, none⟩) hbs).trans r2, (hBB.cell (p := ⟨bs, os + m * 8 + 3, none⟩) hbs).trans r3, (hBB.cell (p := ⟨bs, os + m * 8 + 4, none⟩) hbs).trans r4, (hBB.cell (p := ⟨bs, os + m * 8 + 5, none⟩) hbs).trans r5, (hBB.cell (p := ⟨bs, os + m * 8 + 6, none⟩) hbs).trans r6, (hBB.cell (p := ⟨bs, os + m * 8 + 7, none⟩) hbs).trans r7, hBB⟩; first | exact (Below.refl _ w4).drew | exact held14p (by assumption) | (refine stepB' (held14p (by assumption)) ?_; assumption)))
        (first
          | (go_at_call 123; refine (CS.out _ (held14p (by assumption))).mono ?_; rintro e w5 ⟨rfl, hb5⟩)
          | (go_at_call 122; refine (CL.out _).mono ?_; rintro e w6 ⟨rfl, rfl⟩))
      all_goals have hq := hbel.trans ((held14p (by assumption)).mono hbel.size)
      all_goals go_wp2_with fail
      all_goals go_roundg (gk - 1)
      case rel => exact ⟨k + 1, _, by omega, by go_num, rfl, HN, hq⟩
      case measure => omega
    · obtain rfl : k = n := by omega
      go_wp2_with fail
      go_ret
      exact ⟨congrArg (fun z => Ending.returned (.int .i64 z)) hx.out, hB⟩

end Go.Proofs.Ytcdgbjklfmlhkaa
