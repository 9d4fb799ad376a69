/-
  RangeOf: the model's and the program's. (Written by gen_pgrg5.py.)
-/
import Derived.Test.YtdeilceakhgjlaaGreatPgRg2
import Derived.Test.YtdeilceakhgjlaaGreatPgRgA
import Derived.Test.YtdeilceakhgjlaaGreatPgCu4
import Derived.Test.YtdeilceakhgjlaaGreatPgVi
namespace Go.Proofs.YtdeilceakhgjlaaGreat
open Go.RowKit Num

theorem Tryz.infoIvS : (Tryz.prog.info? 70).map (fun i => (i.zero, i.size, i.bytes)) = some (some (.agg #[.int .i64 0, .int .i64 0]), 2, 16) := by kernel_rfl

theorem mk_ivS (n : Nat) (hn : n ≤ 1048576) (w : World) :
    (Instr.makeSlice 149 (.int .i64 (n : Int)) (.int .i64 (n : Int))).run Tryz.prog w = .ok (.slice (some ⟨w.heap.size, 0, none⟩) n n) (w.alloc (.cells (madeCells #[.int .i64 0, .int .i64 0] (n * 2)) 70)) := by
  obtain ⟨i, hi, hzz⟩ := Option.map_eq_some_iff.1 Tryz.infoIvS
  simp only [Prod.mk.injEq] at hzz
  obtain ⟨hz, hs, hb⟩ := hzz
  have hr := run_make (P := Tryz.prog) w 149 70 i _ Tryz.underlying149 hi hz .i64 .i64 n n (by omega) (Int.le_refl _) (by rw [hb]; omega) (by omega)
  simp only [Int.toNat_natCast, hs, Value.cells] at hr
  exact hr

/-- The list is as it was or the new interval is laid; the program's box stands. -/
def KeepV (w : World) (G : Nat) (ps : Array Value) (cs ds : Array Value) (w' : World) : Prop := (Box w' w.heap.size 38 ps ∧ Box w' (w.heap.size + 1) 70 #[.int .i64 0, .int .i64 0]) ∧ (Box w' G 70 cs ∨ Box w' G 70 ds) ∧ Below w.heap.size w w'
theorem KeepV.step {w w1 w2 : World} {G : Nat} {ps cs ds : Array Value} (h : KeepV w G ps cs ds w1) (hb : Below w1.heap.size w1 w2) : KeepV w G ps cs ds w2 :=
  ⟨⟨h.1.1.below hb h.1.1.lt, h.1.2.below hb h.1.2.lt⟩, h.2.1.imp (fun z => z.below hb z.lt) (fun z => z.below hb z.lt), h.2.2.trans (hb.mono h.2.2.size)⟩
theorem KeepV.put {w w1 : World} {G k : Nat} {ps cs : Array Value} {a b : Value} (h : KeepV w G ps cs ((cs.setIfInBounds (k * 2) a).setIfInBounds (k * 2 + 1) b) w1) (hX : w.heap.size + 1 < G) : KeepV w G ps cs ((cs.setIfInBounds (k * 2) a).setIfInBounds (k * 2 + 1) b) ((w1.setCell ⟨G, k * 2, none⟩ a).setCell ⟨G, k * 2 + 1, none⟩ b) :=
  ⟨⟨(h.1.1.far (by omega) _ _).far (by omega) _ _, (h.1.2.far (by omega) _ _).far (by omega) _ _⟩, .inr (h.2.1.elim (fun z => (z.set _ a).set _ b) (fun z => by
    have := (z.set (k * 2) a).set (k * 2 + 1) b
    rwa [set_set_same] at this)), (h.2.2.setCell (p := ⟨G, k * 2, none⟩) (by show w.heap.size ≤ G; omega) _).setCell (p := ⟨G, k * 2 + 1, none⟩) (by show w.heap.size ≤ G; omega) _⟩
theorem KeepV.fin {w w1 : World} {G k : Nat} {ps cs : Array Value} {a b : Value} (h : KeepV w G ps cs ((cs.setIfInBounds (k * 2) a).setIfInBounds (k * 2 + 1) b) w1) (hX : w.heap.size + 1 < G) : Box ((w1.setCell ⟨G, k * 2, none⟩ a).setCell ⟨G, k * 2 + 1, none⟩ b) G 70 ((cs.setIfInBounds (k * 2) a).setIfInBounds (k * 2 + 1) b) ∧ (Box ((w1.setCell ⟨G, k * 2, none⟩ a).setCell ⟨G, k * 2 + 1, none⟩ b) w.heap.size 38 ps ∧ Box ((w1.setCell ⟨G, k * 2, none⟩ a).setCell ⟨G, k * 2 + 1, none⟩ b) (w.heap.size + 1) 70 #[.int .i64 0, .int .i64 0]) ∧ Below w.heap.size w ((w1.setCell ⟨G, k * 2, none⟩ a).setCell ⟨G, k * 2 + 1, none⟩ b) :=
  ⟨h.2.1.elim (fun z => (z.set _ a).set _ b) (fun z => by
    have := (z.set (k * 2) a).set (k * 2 + 1) b
    rwa [set_set_same] at this), (h.put hX).1, (h.put hX).2.2⟩
theorem KeepV.cells {w w' : World} {G n k : Nat} {p0 p1 p2 p3 p4 p5 : Value} {cs : Array Value} {x y : Int} {g : Nat → Int × Int} (h : KeepV w G #[p0, p1, p2, p3, p4, p5] cs ((cs.setIfInBounds (k * 2) (.int .i64 x)).setIfInBounds (k * 2 + 1) (.int .i64 y)) w') (hc : PairsC cs n k g) (hk : k < n) :
    w'.cell? ⟨w.heap.size, 0, none⟩ = some p0 ∧ w'.cell? ⟨w.heap.size, 1, none⟩ = some p1 ∧ w'.cell? ⟨w.heap.size, 2, none⟩ = some p2 ∧ w'.cell? ⟨w.heap.size, 3, none⟩ = some p3 ∧ w'.cell? ⟨w.heap.size, 4, none⟩ = some p4 ∧ w'.cell? ⟨w.heap.size, 5, none⟩ = some p5 ∧ w'.frozen? ⟨G, k * 2, none⟩ = false ∧ w'.frozen? ⟨G, k * 2 + 1, none⟩ = false ∧ w'.cell? ⟨G, k * 2, none⟩ = some (cellOr w' ⟨G, k * 2, none⟩) ∧ w'.cell? ⟨G, k * 2 + 1, none⟩ = some (cellOr w' ⟨G, k * 2 + 1, none⟩) ∧ KeepV w G #[p0, p1, p2, p3, p4, p5] cs ((cs.setIfInBounds (k * 2) (.int .i64 x)).setIfInBounds (k * 2 + 1) (.int .i64 y)) w' := by
  have kx : (∃ y, w'.cell? ⟨G, k * 2, none⟩ = some y) ∧ (∃ y, w'.cell? ⟨G, k * 2 + 1, none⟩ = some y) ∧ ∀ m, w'.frozen? ⟨G, m, none⟩ = false := by
    rcases h.2.1 with b | b
    · exact ⟨(hc.ex b hk).1, (hc.ex b hk).2, b.free⟩
    · exact ⟨((hc.put hk x y).ex b hk).1, ((hc.put hk x y).ex b hk).2, b.free⟩
  obtain ⟨⟨z0, e0⟩, ⟨z1, e1⟩, fz⟩ := kx
  exact ⟨h.1.1.cell 0, h.1.1.cell 1, h.1.1.cell 2, h.1.1.cell 3, h.1.1.cell 4, h.1.1.cell 5, fz _, fz _, cellOr_of e0, cellOr_of e1, h⟩
theorem KeepV.list {w w' : World} {G n k : Nat} {ps : Array Value} {cs : Array Value} {x y : Int} {g : Nat → Int × Int} (h : KeepV w G ps cs ((cs.setIfInBounds (k * 2) (.int .i64 x)).setIfInBounds (k * 2 + 1) (.int .i64 y)) w') (hc : PairsC cs n k g) (hk : k < n) : ∀ j, j < k → ∃ bb off, (some (⟨G, 0, none⟩ : Addr)) = some ⟨bb, off, none⟩ ∧ bb < w'.heap.size ∧ w'.cell? ⟨bb, off + j * 2, none⟩ = some (.int .i64 (g j).1) ∧ w'.cell? ⟨bb, off + j * 2 + 1, none⟩ = some (.int .i64 (g j).2) := fun j hj => by
  rcases h.2.1 with b | b
  · refine ⟨G, 0, rfl, b.lt, ?_, ?_⟩
    · rw [Nat.zero_add]; exact (hc.at_ b hj).1
    · rw [Nat.zero_add]; exact (hc.at_ b hj).2
  · have := (hc.put hk x y).at_ b (show j < k + 1 by omega)
    rw [if_neg (by omega)] at this
    refine ⟨G, 0, rfl, b.lt, ?_, ?_⟩
    · rw [Nat.zero_add]; exact this.1
    · rw [Nat.zero_add]; exact this.2
theorem hold14g {p0 p1 p2 p3 p4 p5 p6 p7 p8 p9 p10 p11 p12 p13 K : Prop} (h : p0 ∧ p1 ∧ p2 ∧ p3 ∧ p4 ∧ p5 ∧ p6 ∧ p7 ∧ p8 ∧ p9 ∧ p10 ∧ p11 ∧ p12 ∧ p13 ∧ K) : K := h.2.2.2.2.2.2.2.2.2.2.2.2.2.2

theorem rgs_stay (F : Nat → Nat → Int) (vz : Nat → Int) (j : Nat) : ∀ d, rgs F vz (j + 1 + d) j = rgs F vz (j + 1) j
  | 0 => rfl
  | d + 1 => by
    rw [show j + 1 + (d + 1) = (j + 1 + d) + 1 by omega, rgs_succ]
    simp only []
    rw [if_neg (by omega)]
    exact rgs_stay F vz j d

set_option maxRecDepth 100000 in
set_option maxHeartbeats 6400000 in
theorem range5_any (lo : Nat) (P : Prg) (Av Ax As Ap Ab : Option Addr) (cv cx cs cp cb e : Nat) (w : World) (hx : exsOk P.ex P.nv P.nx = true) (hnx : P.nx ≤ 40) (hnv : P.nv ≤ 5) (he : e < P.nx) (hv : ∀ j, j < P.nv → 1 ≤ P.vz j ∧ P.vz j ≤ 21) (h : ExL lo w Ax P.nx P.ex) (hi : VrAt lo w Av P.nv P.vn P.vz) :
    Calls Tryz.prog 52 #[.agg #[.slice Av P.nv cv, .slice Ax P.nx cx, .slice As P.ns cs, .slice Ap P.np cp, .slice Ab P.nb cb, .int .i64 P.fuel], .int .i64 (e : Nat)] w fun r w' => r = .returned (.agg #[.int .i64 (rgs P.ex P.vz (e + 1) e).1, .int .i64 (rgs P.ex P.vz (e + 1) e).2]) ∧ Below w.heap.size w w' := by
  obtain ⟨n, hn⟩ : ∃ n, n = e + 1 := ⟨_, rfl⟩
  have hmk := mk_ivS n (by omega)
  have wn : IntKind.i64.wrap ((e : Int) + 1) = (n : Int) := by rw [IntWalk.i64_in _ (by omega)]; omega
  obtain ⟨w1, hw1⟩ : ∃ w1, w1 = (w.alloc (.cells #[.slice Av P.nv cv, .slice Ax P.nx cx, .slice As P.ns cs, .slice Ap P.np cp, .slice Ab P.nb cb, .int .i64 P.fuel] 38)).alloc (.cells #[.int .i64 0, .int .i64 0] 70) := ⟨_, rfl⟩
  have hP : Box w1 w.heap.size 38 #[.slice Av P.nv cv, .slice Ax P.nx cx, .slice As P.ns cs, .slice Ap P.np cp, .slice Ab P.nb cb, .int .i64 P.fuel] := by rw [hw1]; exact (Box.new w 38 #[.slice Av P.nv cv, .slice Ax P.nx cx, .slice As P.ns cs, .slice Ap P.np cp, .slice Ab P.nb cb, .int .i64 P.fuel]).alloc _
  have hR : Box w1 (w.heap.size + 1) 70 #[.int .i64 0, .int .i64 0] := by
    have := Box.new (w.alloc (.cells #[.slice Av P.nv cv, .slice Ax P.nx cx, .slice As P.ns cs, .slice Ap P.np cp, .slice Ab P.nb cb, .int .i64 P.fuel] 38)) 70 #[.int .i64 0, .int .i64 0]
    rw [World.size_alloc] at this
    rw [hw1]; exact this
  have hB : Below w.heap.size w w1 := by rw [hw1]; exact ((Below.refl _ w).alloc (Nat.le_refl _) _).alloc (by simp) _
  have hz1 : w1.heap.size = w.heap.size + 2 := by rw [hw1]; simp
  obtain ⟨G, hG⟩ : ∃ G, G = w.heap.size + 2 := ⟨_, rfl⟩
  have hX := Box.new w1 70 (madeCells #[.int .i64 0, .int .i64 0] (n * 2))
  rw [hz1, ← hG] at hX
  have hal := (Below.refl w1.heap.size w1).alloc (Nat.le_refl _) (.cells (madeCells #[.int .i64 0, .int .i64 0] (n * 2)) 70)
  have hP2 := hP.alloc (.cells (madeCells #[.int .i64 0, .int .i64 0] (n * 2)) 70)
  have hR2 := hR.alloc (.cells (madeCells #[.int .i64 0, .int .i64 0] (n * 2)) 70)
  have hB2 := hB.trans (hal.mono hB.size)
  obtain ⟨w2, hw2⟩ : ∃ w2, w2 = w1.alloc (.cells (madeCells #[.int .i64 0, .int .i64 0] (n * 2)) 70) := ⟨_, rfl⟩
  rw [← hw2] at hX hP2 hR2 hB2
  have H := Lib.hid h
  have HI := Lib.hid hi
  have HX := Lib.hid hx
  have HF := Lib.hid hv
  have HN := Lib.hid hn
  have hG2 : w.heap.size ≤ G := by omega
  have hPG : w.heap.size + 1 < G := by omega
  have hne : n ≤ P.nx := by omega
  have hen : (e : Int) < (n : Int) := by omega
  clear h hi hx hv hal hP hR hB hn
  go_enter Tryz.func52, Tryz.ntmps52
  go_upto_region 1 with fail
  rw [← hw1]
  clear hw1
  go_upto_region 2 with fail
  rw [← hG, ← hw2]
  clear hw2 hmk hG wn hz1
  go_wp2_with fail
  go_loopg [12] n (fun q iv wr => ∃ (k : Nat) (cs' : Array Value), k + q = n ∧ iv = .int .i64 (k : Nat) ∧ Hid (PairsC cs' n k (rgs P.ex P.vz k)) ∧ Box wr G 70 cs' ∧ Below w.heap.size w wr ∧ Box wr w.heap.size 38 #[.slice Av P.nv cv, .slice Ax P.nx cx, .slice As P.ns cs, .slice Ap P.np cp, .slice Ab P.nb cb, .int .i64 P.fuel] ∧ Box wr (w.heap.size + 1) 70 #[.int .i64 0, .int .i64 0])
  case atStart => exact ⟨0, _, by omega, rfl, Lib.hid (PairsC.made n _), hX, hB2, hP2, hR2⟩
  case round =>
    rename World => w3
    obtain ⟨k, cs3, hk, rfl, hc, hbx, hbel, hP3, hR3⟩ := hrel
    by_cases hk0 : k < n
    · obtain ⟨b, off, rfl, hb, r0, r1, r2, r3⟩ := H.out.1.at_ (show k < P.nx by omega)
      have hkx : (k : Int) < (P.nx : Int) := by omega
      have hkn : (k : Int) < (n : Int) := by omega
      have ho := exsOk_at HX.out (show k < P.nx by omega)
      obtain ⟨x, y, hxy⟩ : ∃ x y, (x, y) = exR (P.ex k 0) (P.ex k 1) (P.ex k 2) (P.ex k 3) (rgs P.ex P.vz k) P.vz := ⟨_, _, rfl⟩
      have K0 : KeepV w G #[.slice Av P.nv cv, .slice (some ⟨b, off, none⟩) P.nx cx, .slice As P.ns cs, .slice Ap P.np cp, .slice Ab P.nb cb, .int .i64 P.fuel] cs3 ((cs3.setIfInBounds (k * 2) (.int .i64 x)).setIfInBounds (k * 2 + 1) (.int .i64 y)) w3 := ⟨⟨hP3, hR3⟩, .inl hbx, hbel⟩
      have HK0 := Lib.hid K0
      have CO : Hid (∀ W, KeepV w G #[.slice Av P.nv cv, .slice (some ⟨b, off, none⟩) P.nx cx, .slice As P.ns cs, .slice Ap P.np cp, .slice Ab P.nb cb, .int .i64 P.fuel] cs3 ((cs3.setIfInBounds (k * 2) (.int .i64 x)).setIfInBounds (k * 2 + 1) (.int .i64 y)) W → Calls Tryz.prog 112 #[.agg #[.slice Av P.nv cv, .slice (some ⟨b, off, none⟩) P.nx cx, .slice As P.ns cs, .slice Ap P.np cp, .slice Ab P.nb cb, .int .i64 P.fuel], .agg #[.int .i64 (P.ex k 0), .int .i64 (P.ex k 1), .int .i64 (P.ex k 2), .int .i64 (P.ex k 3)], .slice (some ⟨G, 0, none⟩) n n] W fun e w' => e = .returned (.agg #[.int .i64 x, .int .i64 y]) ∧ Below W.heap.size W w') := Lib.hid fun W hW => by
        have := apply5_any lo lo P Av (some ⟨b, off, none⟩) As Ap Ab (some ⟨G, 0, none⟩) cv cx cs cp cb n n k (P.ex k 0) (P.ex k 1) (P.ex k 2) (P.ex k 3) (rgs P.ex P.vz k) W ho hk0 (by omega) hnv HF.out (fun j => rgs_in HX.out HF.out (by omega) j) (hW.list hc.out hk0) (HI.out.below hW.2.2 (Nat.le_refl _))
        rw [← hxy] at this
        exact this
      have HV := Lib.hid hxy
      have ALL : Hid (∀ w', KeepV w G #[.slice Av P.nv cv, .slice (some ⟨b, off, none⟩) P.nx cx, .slice As P.ns cs, .slice Ap P.np cp, .slice Ab P.nb cb, .int .i64 P.fuel] cs3 ((cs3.setIfInBounds (k * 2) (.int .i64 x)).setIfInBounds (k * 2 + 1) (.int .i64 y)) w' → w'.cell? ⟨w.heap.size, 0, none⟩ = some (.slice Av P.nv cv) ∧ w'.cell? ⟨w.heap.size, 1, none⟩ = some (.slice (some ⟨b, off, none⟩) P.nx cx) ∧ w'.cell? ⟨w.heap.size, 2, none⟩ = some (.slice As P.ns cs) ∧ w'.cell? ⟨w.heap.size, 3, none⟩ = some (.slice Ap P.np cp) ∧ w'.cell? ⟨w.heap.size, 4, none⟩ = some (.slice Ab P.nb cb) ∧ w'.cell? ⟨w.heap.size, 5, none⟩ = some (.int .i64 P.fuel) ∧ w'.frozen? ⟨G, k * 2, none⟩ = false ∧ w'.frozen? ⟨G, k * 2 + 1, none⟩ = false ∧ w'.cell? ⟨G, k * 2, none⟩ = some (cellOr w' ⟨G, k * 2, none⟩) ∧ w'.cell? ⟨G, k * 2 + 1, none⟩ = some (cellOr w' ⟨G, k * 2 + 1, none⟩) ∧ w'.cell? ⟨b, off + k * 4, none⟩ = some (.int .i64 (P.ex k 0)) ∧ w'.cell? ⟨b, off + k * 4 + 1, none⟩ = some (.int .i64 (P.ex k 1)) ∧ w'.cell? ⟨b, off + k * 4 + 2, none⟩ = some (.int .i64 (P.ex k 2)) ∧ w'.cell? ⟨b, off + k * 4 + 3, none⟩ = some (.int .i64 (P.ex k 3)) ∧ KeepV w G #[.slice Av P.nv cv, .slice (some ⟨b, off, none⟩) P.nx cx, .slice As P.ns cs, .slice Ap P.np cp, .slice Ab P.nb cb, .int .i64 P.fuel] cs3 ((cs3.setIfInBounds (k * 2) (.int .i64 x)).setIfInBounds (k * 2 + 1) (.int .i64 y)) w') := Lib.hid fun w' hk' => by
        obtain ⟨g0, g1, g2, g3, g4, g5, g6, g7, g8, g9, gk⟩ := hk'.cells hc.out hk0
        exact ⟨g0, g1, g2, g3, g4, g5, g6, g7, g8, g9, (hk'.2.2.cell (p := ⟨b, off + k * 4, none⟩) hb).trans r0, (hk'.2.2.cell (p := ⟨b, off + k * 4 + 1, none⟩) hb).trans r1, (hk'.2.2.cell (p := ⟨b, off + k * 4 + 2, none⟩) hb).trans r2, (hk'.2.2.cell (p := ⟨b, off + k * 4 + 3, none⟩) hb).trans r3, gk⟩
      clear ho hxy K0 hP3 hR2 hX
      go_upto_region 5 with fail
      go_region_held3 (fun w' => w'.cell? ⟨w.heap.size, 0, none⟩ = some (.slice Av P.nv cv) ∧ w'.cell? ⟨w.heap.size, 1, none⟩ = some (.slice (some ⟨b, off, none⟩) P.nx cx) ∧ w'.cell? ⟨w.heap.size, 2, none⟩ = some (.slice As P.ns cs) ∧ w'.cell? ⟨w.heap.size, 3, none⟩ = some (.slice Ap P.np cp) ∧ w'.cell? ⟨w.heap.size, 4, none⟩ = some (.slice Ab P.nb cb) ∧ w'.cell? ⟨w.heap.size, 5, none⟩ = some (.int .i64 P.fuel) ∧ w'.frozen? ⟨G, k * 2, none⟩ = false ∧ w'.frozen? ⟨G, k * 2 + 1, none⟩ = false ∧ w'.cell? ⟨G, k * 2, none⟩ = some (cellOr w' ⟨G, k * 2, none⟩) ∧ w'.cell? ⟨G, k * 2 + 1, none⟩ = some (cellOr w' ⟨G, k * 2 + 1, none⟩) ∧ w'.cell? ⟨b, off + k * 4, none⟩ = some (.int .i64 (P.ex k 0)) ∧ w'.cell? ⟨b, off + k * 4 + 1, none⟩ = some (.int .i64 (P.ex k 1)) ∧ w'.cell? ⟨b, off + k * 4 + 2, none⟩ = some (.int .i64 (P.ex k 2)) ∧ w'.cell? ⟨b, off + k * 4 + 3, none⟩ = some (.int .i64 (P.ex k 3)) ∧ KeepV w G #[.slice Av P.nv cv, .slice (some ⟨b, off, none⟩) P.nx cx, .slice As P.ns cs, .slice Ap P.np cp, .slice Ab P.nb cb, .int .i64 P.fuel] cs3 ((cs3.setIfInBounds (k * 2) (.int .i64 x)).setIfInBounds (k * 2 + 1) (.int .i64 y)) w')
        ((refine ALL.out _ ?_; first | exact HK0.out.step (Below.refl _ w3).drew | exact hold14g (by assumption) | exact KeepV.step (hold14g (by assumption)) (by assumption) | exact KeepV.put (hold14g (by assumption)) hPG))
        (first
          | (go_at_call 112; refine (CO.out _ (hold14g (by assumption))).mono ?_; rintro e w' ⟨rfl, hb'⟩; have hw9 := Lib.hid (KeepV.step (show KeepV w G #[.slice Av P.nv cv, .slice (some ⟨b, off, none⟩) P.nx cx, .slice As P.ns cs, .slice Ap P.np cp, .slice Ab P.nb cb, .int .i64 P.fuel] cs3 ((cs3.setIfInBounds (k * 2) (.int .i64 x)).setIfInBounds (k * 2 + 1) (.int .i64 y)) _ from hold14g (by assumption)) hb')))
      go_wp2_with fail
      go_roundg (gk - 1)
      case rel => exact ⟨k + 1, _, by omega, by go_num, Lib.hid (by rw [rgs_succ, ← HV.out]; exact hc.out.put hk0 x y), (hw9.out.fin hPG).1, (hw9.out.fin hPG).2.2, (hw9.out.fin hPG).2.1.1, (hw9.out.fin hPG).2.1.2⟩
      case measure => omega
    · obtain rfl : k = n := by omega
      obtain ⟨e0, e1⟩ := hc.out.at_ hbx (show e < k by rw [HN.out]; exact Nat.lt_succ_self _)
      rw [HN.out] at e0 e1
      obtain ⟨x, hx⟩ : ∃ x, x = (rgs P.ex P.vz (e + 1) e).1 := ⟨_, rfl⟩
      obtain ⟨y, hy⟩ : ∃ y, y = (rgs P.ex P.vz (e + 1) e).2 := ⟨_, rfl⟩
      rw [← hx] at e0
      rw [← hy] at e1
      have HXY := Lib.hid (And.intro hx hy)
      clear hx hy
      obtain ⟨r0, r1, rf⟩ := hR3.duo
      go_wp2_with fail
      have hF := (hR3.set 0 (.int .i64 x)).set 1 (.int .i64 y)
      have k0 := hF.cell 0
      have k1 := hF.cell 1
      exact bodyPost_ret (v := .agg #[.int .i64 x, .int .i64 y]) (by simp [results, Tryz.results52, go_sem, k0, k1]; done) rfl ⟨by rw [HXY.out.1, HXY.out.2], (hbel.setCell (p := ⟨w.heap.size + 1, 0, none⟩) (Nat.le_succ _) _).setCell (p := ⟨w.heap.size + 1, 1, none⟩) (Nat.le_succ _) _⟩

theorem vals_21 {P : Prg} (F : PgOk P) : ∀ j, j < P.nv → 1 ≤ P.vz j ∧ P.vz j ≤ 21 := fun j hj => by
  have := (F.1.1 j hj).2.1
  omega
/-- The answer. -/
def rnP (P : Prg) (m : Int) : Int × Int := rgs P.ex P.vz (m.toNat + 1) m.toNat
open Classical in
noncomputable def rnL (P : Prg) (m : Int) : Int := if ExOf P m then (rnP P m).1 else 0
open Classical in
noncomputable def rnH (P : Prg) (m : Int) : Int := if ExOf P m then (rnP P m).2 else 0
open Classical in
noncomputable def rnB (P : Prg) (m : Int) : Bool := if ExOf P m then true else false
theorem rn_no {P : Prg} {m : Int} (h : ¬ ExOf P m) : rnL P m = 0 ∧ rnH P m = 0 ∧ rnB P m = false := ⟨if_neg h, if_neg h, if_neg h⟩
theorem rn_yes {P : Prg} {m : Int} (h : ExOf P m) : rnL P m = (rnP P m).1 ∧ rnH P m = (rnP P m).2 ∧ rnB P m = true := ⟨if_pos h, if_pos h, if_pos h⟩

end Go.Proofs.YtdeilceakhgjlaaGreat
