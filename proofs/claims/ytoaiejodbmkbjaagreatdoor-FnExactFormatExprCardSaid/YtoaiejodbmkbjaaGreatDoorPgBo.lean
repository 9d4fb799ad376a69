/-
  The program's list of the blocks.
-/
import Derived.Test.YtoaiejodbmkbjaaGreatDoorPgOnce
namespace Go.Proofs.YtoaiejodbmkbjaaGreatDoor
open Go.RowKit Num

theorem Tryz.infoInts : (Tryz.prog.info? 26).map (fun i => (i.zero, i.size, i.bytes)) = some (some (.slice none 0 0), 1, 24) := by kernel_rfl

theorem one_sl (A : Option Addr) (n c : Nat) : ∀ u ∈ [Value.slice A n c], u.oneCell' = true := by
  intro u hu
  rcases List.mem_singleton.1 hu with rfl
  rfl
theorem two_sl (A B : Option Addr) (n c m d : Nat) : ∀ u ∈ [Value.slice A n c, Value.slice B m d], u.oneCell' = true := by
  intro u hu
  simp at hu
  rcases hu with rfl | rfl <;> rfl
theorem cell_two_new (w : World) (x y : Value) (t : TypeId) : ∀ j u, [x, y][j]? = some u → (w.alloc (.cells #[x, y] t)).cell? ((⟨w.heap.size, 0, none⟩ : Addr).add j) = some u := by
  intro j u hj
  match j, hj with
  | 0, hj =>
    simp at hj
    subst hj
    simp [Addr.add]
  | 1, hj =>
    simp at hj
    subst hj
    simp [Addr.add]

/-- What blocksOf returns: a slice of the blocks, in a block of its own. -/
def BlksPost (lo : Nat) (P : Prg) (w0 w : World) (e : Ending) (w' : World) : Prop := ∃ g cap xs n, Hid (n = 1 + P.np + 2 * P.ns) ∧ e = .returned (.slice (some ⟨g, 0, none⟩) n cap) ∧ w.heap.size ≤ g ∧ w'.ownsRow w.heap.size 26 1 (.slice (some ⟨g, 0, none⟩) n cap) n xs ∧ BlsAt lo w0 xs (blS P P.ns) ∧ Below w.heap.size w w'

set_option maxRecDepth 100000 in
set_option maxHeartbeats 6400000 in
theorem blks_any (lo : Nat) (P : Prg) (Av Ax As Ap Ab : Option Addr) (cv cx cs cp cb : Nat) (w0 w : World) (hs : P.small) (hB00 : Below w0.heap.size w0 w) (h : PgAt lo w0 Av Ax As Ap Ab P) :
    Calls Tryz.prog 71 #[.agg #[.slice Av P.nv cv, .slice Ax P.nx cx, .slice As P.ns cs, .slice Ap P.np cp, .slice Ab P.nb cb, .int .i64 P.fuel]] w (BlksPost lo P w0 w) := by
  obtain ⟨i0, ji, jz0, jz1, jz2⟩ := info_three Tryz.infoInts
  have hP := Box.new w 37 #[.slice Av P.nv cv, .slice Ax P.nx cx, .slice As P.ns cs, .slice Ap P.np cp, .slice Ab P.nb cb, .int .i64 P.fuel]
  have hB := (Below.refl w.heap.size w).alloc (Nat.le_refl _) (.cells #[.slice Av P.nv cv, .slice Ax P.nx cx, .slice As P.ns cs, .slice Ap P.np cp, .slice Ab P.nb cb, .int .i64 P.fuel] 37)
  obtain ⟨w1, hw1⟩ : ∃ w1, w1 = w.alloc (.cells #[.slice Av P.nv cv, .slice Ax P.nx cx, .slice As P.ns cs, .slice Ap P.np cp, .slice Ab P.nb cb, .int .i64 P.fuel] 37) := ⟨_, rfl⟩
  have hz1 : w1.heap.size = w.heap.size + 1 := by rw [hw1]; simp
  rw [← hw1] at hP hB
  have hX : w1.alloc (.cells #[.slice Ab P.nb cb] 26) |>.ownsRow (w.heap.size + 1) 26 1 (.slice (some ⟨w.heap.size + 1, 0, none⟩) 1 1) 1 [.slice Ab P.nb cb] :=
    ⟨rfl, .inr ⟨w.heap.size + 1, 1, #[.slice Ab P.nb cb], rfl, Nat.le_refl _, by rw [← hz1]; exact heap_alloc_new w1 _, Nat.le_refl _, by unfold maxLen; omega, rfl, rfl⟩⟩
  have hB2 := hB.alloc hB.size (.cells #[.slice Ab P.nb cb] 26)
  have hP2 := hP.alloc (.cells #[.slice Ab P.nb cb] 26)
  obtain ⟨w2, hw2⟩ : ∃ w2, w2 = w1.alloc (.cells #[.slice Ab P.nb cb] 26) := ⟨_, rfl⟩
  rw [← hw2] at hX hB2 hP2
  have hbl0 : Hid (BlsAt lo w0 [.slice Ab P.nb cb] (blP P 0)) := Lib.hid (BlsAt.one h.b)
  have HP := Lib.hid h.p
  have HS := Lib.hid h.s
  have hnp := hs.np
  have hns := hs.ns
  clear h hs
  obtain ⟨q0, q1, q2, q3, q4, q5, qf⟩ := hP.six
  obtain ⟨p0, p1, p2, p3, p4, p5, pf⟩ := hP2.six
  go_enter Tryz.func71, Tryz.ntmps71
  go_upto_region 2 with fail
  rw [← hw1, ← hw2]
  clear hw1 hw2 q0 q1 q2 q3 q4 q5 qf
  go_wp2_with fail
  clear p0 p1 p2 p3 p4 p5 pf
  go_loopg [3, 14] P.np (fun q sv iv wr => ∃ (k : Nat) (xs : List Value), k + q = P.np ∧ iv = .int .i64 (k : Nat) ∧ wr.ownsRow (w.heap.size + 1) 26 1 sv (1 + k) xs ∧ Hid (BlsAt lo w0 xs (blP P k)) ∧ Box wr w.heap.size 37 #[.slice Av P.nv cv, .slice Ax P.nx cx, .slice As P.ns cs, .slice Ap P.np cp, .slice Ab P.nb cb, .int .i64 P.fuel] ∧ Below w.heap.size w wr)
  case atStart => exact ⟨0, _, by omega, rfl, hX, hbl0, hP2, hB2⟩
  case round =>
    rename World => w4
    obtain ⟨k, xs, hk, rfl, hown, hbl, hP4, hbel⟩ := hrel
    by_cases hk0 : k < P.np
    · obtain ⟨b, off, A1, c1, rfl, hb, r0, r1, g1⟩ := HP.out.at_ hk0
      have s0 := (hbel.cell (p := ⟨b, off + k * 2, none⟩) (Nat.lt_of_lt_of_le hb hB00.size)).trans ((hB00.cell (p := ⟨b, off + k * 2, none⟩) hb).trans r0)
      have s1 := (hbel.cell (p := ⟨b, off + k * 2 + 1, none⟩) (Nat.lt_of_lt_of_le hb hB00.size)).trans ((hB00.cell (p := ⟨b, off + k * 2 + 1, none⟩) hb).trans r1)
      have hal := (Below.refl w4.heap.size w4).alloc (Nat.le_refl _) (.cells #[.string (P.pn k), .slice A1 (P.pl k) c1] 89)
      have hY := Box.new w4 89 #[.string (P.pn k), .slice A1 (P.pl k) c1]
      have hP5 := hP4.alloc (.cells #[.string (P.pn k), .slice A1 (P.pl k) c1] 89)
      obtain ⟨z0, z1, _, _⟩ := hY.two
      have hown2 := own_keeps hown hal (Nat.le_refl _)
      have hb2 := hbel.trans (hal.mono hbel.size)
      have hnew : Hid (BlsAt lo w0 (xs ++ [.slice A1 (P.pl k) c1]) (blP P (k + 1))) := Lib.hid (by rw [blP_succ]; exact hbl.out.app (BlsAt.one g1))
      clear hown r0 r1 g1 hbl
      go_upto_region 5 with fail
      obtain ⟨w3, hw3⟩ : ∃ w3, w3 = w4.alloc (.cells #[.string (P.pn k), .slice A1 (P.pl k) c1] 89) := ⟨_, rfl⟩
      rw [← hw3] at hown2 hb2 hY hP5 ⊢
      have hsz3 : w.heap.size + 1 ≤ w3.heap.size := hP5.lt
      obtain ⟨v0, v1, _, _⟩ := hY.two
      clear hw3
      go_wp2_with (at_builtin; refine wpList_append_own _ rfl _ _ 111 rfl (w.heap.size + 1) 26 i0 (.slice none 0 0) 1 24 Tryz.underlying111 ji jz0 jz1 jz2 rfl (by decide) _ (1 + k) _ rfl (hown2.alloc _) ⟨w3.heap.size, 0, none⟩ 1 1 [.slice A1 (P.pl k) c1] rfl rfl (cell_one_new _ _ _) (one_sl _ _ _) (by unfold maxLen; omega) (by omega) (by simp; omega) ?_; intro v6 w6 hown6 hgrow6 _)
      go_roundg (gk - 1)
      case rel =>
        refine ⟨k + 1, _, by omega, by go_num, by rw [← Nat.add_assoc]; exact hown6, hnew, ?_, (hb2.alloc (by have := hb2.size; omega) _).grown hgrow6 (by simp; omega) (fun r hr => by have := (hown2.lt r hr).1; omega)⟩
        exact (hgrow6.block w.heap.size (by simp; omega) (fun e => by have := (hown2.lt _ e.symm).1; omega)).trans (hP5.alloc _)
      case measure => omega
    · obtain rfl : k = P.np := by omega
      obtain ⟨p0, p1, p2, p3, p4, p5, pf⟩ := hP4.six
      go_wp2_with fail
      have hbl1 : Hid (BlsAt lo w0 xs (blS P 0)) := Lib.hid (by rw [show blS P 0 = blP P P.np by simp [blS]]; exact hbl.out)
      clear p0 p1 p2 p3 p4 p5 pf hbl
      go_loopg [3, 27] P.ns (fun q sv iv wr => ∃ (k : Nat) (xs : List Value), k + q = P.ns ∧ iv = .int .i64 (k : Nat) ∧ wr.ownsRow (w.heap.size + 1) 26 1 sv (1 + P.np + 2 * k) xs ∧ Hid (BlsAt lo w0 xs (blS P k)) ∧ Below w.heap.size w wr ∧ w.heap.size + 1 ≤ wr.heap.size)
      case atStart => exact ⟨0, xs, by omega, rfl, hown, hbl1, hbel, hP4.lt⟩
      case round =>
        rename World => w6
        obtain ⟨k, xs, hk, rfl, hown, hbl, hbel, hsz6⟩ := hrel
        by_cases hk0 : k < P.ns
        · obtain ⟨b, off, A3, c3, A4, c4, A5, c5, rfl, hb, r0, r1, r2, r3, r4, r5, r6, r7, g3, g4, g5⟩ := HS.out.at_ hk0
          have s0 := (hbel.cell (p := ⟨b, off + k * 8, none⟩) (Nat.lt_of_lt_of_le hb hB00.size)).trans ((hB00.cell (p := ⟨b, off + k * 8, none⟩) hb).trans r0)
          have s1 := (hbel.cell (p := ⟨b, off + k * 8 + 1, none⟩) (Nat.lt_of_lt_of_le hb hB00.size)).trans ((hB00.cell (p := ⟨b, off + k * 8 + 1, none⟩) hb).trans r1)
          have s2 := (hbel.cell (p := ⟨b, off + k * 8 + 2, none⟩) (Nat.lt_of_lt_of_le hb hB00.size)).trans ((hB00.cell (p := ⟨b, off + k * 8 + 2, none⟩) hb).trans r2)
          have s3 := (hbel.cell (p := ⟨b, off + k * 8 + 3, none⟩) (Nat.lt_of_lt_of_le hb hB00.size)).trans ((hB00.cell (p := ⟨b, off + k * 8 + 3, none⟩) hb).trans r3)
          have s4 := (hbel.cell (p := ⟨b, off + k * 8 + 4, none⟩) (Nat.lt_of_lt_of_le hb hB00.size)).trans ((hB00.cell (p := ⟨b, off + k * 8 + 4, none⟩) hb).trans r4)
          have s5 := (hbel.cell (p := ⟨b, off + k * 8 + 5, none⟩) (Nat.lt_of_lt_of_le hb hB00.size)).trans ((hB00.cell (p := ⟨b, off + k * 8 + 5, none⟩) hb).trans r5)
          have s6 := (hbel.cell (p := ⟨b, off + k * 8 + 6, none⟩) (Nat.lt_of_lt_of_le hb hB00.size)).trans ((hB00.cell (p := ⟨b, off + k * 8 + 6, none⟩) hb).trans r6)
          have s7 := (hbel.cell (p := ⟨b, off + k * 8 + 7, none⟩) (Nat.lt_of_lt_of_le hb hB00.size)).trans ((hB00.cell (p := ⟨b, off + k * 8 + 7, none⟩) hb).trans r7)
          have hal := (Below.refl w6.heap.size w6).alloc (Nat.le_refl _) (.cells #[.int .i64 (P.st k).kind, .int .i64 (P.st k).var, .int .i64 (P.st k).ex, .slice A3 (P.st k).nc c3, .slice A4 (P.st k).nt c4, .slice A5 (P.st k).ne c5, .int .i64 (P.st k).times, .int .i64 (P.st k).proc] 77)
          have hY := Box.new w6 77 #[.int .i64 (P.st k).kind, .int .i64 (P.st k).var, .int .i64 (P.st k).ex, .slice A3 (P.st k).nc c3, .slice A4 (P.st k).nt c4, .slice A5 (P.st k).ne c5, .int .i64 (P.st k).times, .int .i64 (P.st k).proc]
          have hown2 := own_keeps hown hal (Nat.le_refl _)
          have hb2 := hbel.trans (hal.mono hbel.size)
          have hnew : Hid (BlsAt lo w0 (xs ++ [.slice A4 (P.st k).nt c4, .slice A5 (P.st k).ne c5]) (blS P (k + 1))) := Lib.hid (by rw [blS_succ]; exact hbl.out.app (BlsAt.app (BlsAt.one g4) (BlsAt.one g5)))
          clear hown r0 r1 r2 r3 r4 r5 r6 r7 g3 g4 g5 hbl
          go_upto_region 10 with fail
          obtain ⟨w3, hw3⟩ : ∃ w3, w3 = w6.alloc (.cells #[.int .i64 (P.st k).kind, .int .i64 (P.st k).var, .int .i64 (P.st k).ex, .slice A3 (P.st k).nc c3, .slice A4 (P.st k).nt c4, .slice A5 (P.st k).ne c5, .int .i64 (P.st k).times, .int .i64 (P.st k).proc] 77) := ⟨_, rfl⟩
          rw [← hw3] at hown2 hb2 hY hal ⊢
          have hsz3 : w.heap.size + 1 ≤ w3.heap.size := Nat.le_trans hsz6 hal.size
          obtain ⟨v0, v1, v2, v3, v4, v5, v6, v7, vf⟩ := hY.eight
          clear hw3
          go_wp2_with (at_builtin; refine wpList_append_own _ rfl _ _ 111 rfl (w.heap.size + 1) 26 i0 (.slice none 0 0) 1 24 Tryz.underlying111 ji jz0 jz1 jz2 rfl (by decide) _ (1 + P.np + 2 * k) _ rfl (hown2.alloc _) ⟨w3.heap.size, 0, none⟩ 2 2 [.slice A4 (P.st k).nt c4, .slice A5 (P.st k).ne c5] rfl rfl (cell_two_new _ _ _ _) (two_sl _ _ _ _ _ _) (by unfold maxLen; omega) (by omega) (by simp; omega) ?_; intro v6' w7 hown7 hgrow7 _)
          go_roundg (gk - 1)
          case rel => exact ⟨k + 1, _, by omega, by go_num, by rw [show 1 + P.np + 2 * (k + 1) = 1 + P.np + 2 * k + 2 by omega]; exact hown7, hnew, (hb2.alloc (by have := hb2.size; omega) _).grown hgrow7 (by simp; omega) (fun r hr => by have := (hown2.lt r hr).1; omega), by have := hgrow7.size; simp at this; omega⟩
          case measure => omega
        · obtain rfl : k = P.ns := by omega
          go_wp2_with fail
          go_ret
          rcases hown.2 with ⟨_, h0⟩ | ⟨g, cap, cur, rfl, hg, h5⟩
          · omega
          · exact ⟨g, cap, xs, _, Lib.hid rfl, rfl, by omega, ⟨hown.1, .inr ⟨g, cap, cur, rfl, by omega, h5⟩⟩, hbl.out, hbel⟩

end Go.Proofs.YtoaiejodbmkbjaaGreatDoor
