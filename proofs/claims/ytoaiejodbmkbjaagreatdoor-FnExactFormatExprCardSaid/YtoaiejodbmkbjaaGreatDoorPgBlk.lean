/-
  The model's test of the blocks.
-/
import Derived.Test.YtoaiejodbmkbjaaGreatDoorPgCnt
import Derived.Laws.OwnMore
namespace Go.Proofs.YtoaiejodbmkbjaaGreatDoor
open Go.RowKit Num

theorem not_tt {r : Bool} (h : (!r) = true) : ¬ r = true := by cases r <;> simp_all
theorem not_ff {r : Bool} (h : (!r) = false) : r = true := by cases r <;> simp_all

/-- The numbers of the body and of the first k procedures' bodies; then those of the first k statements' blocks. -/
def lsP (P : Prg) (k : Nat) : List Int := fl P.nb P.bd ++ (List.range k).flatMap fun j => fl (P.pl j) (P.pb j)
def lsS (P : Prg) (k : Nat) : List Int := lsP P P.np ++ (List.range k).flatMap fun j => fl (P.st j).nt (P.st j).th ++ fl (P.st j).ne (P.st j).el
theorem lsP_succ (P : Prg) (k : Nat) : lsP P (k + 1) = lsP P k ++ fl (P.pl k) (P.pb k) := by simp [lsP, List.range_succ]
theorem lsS_succ (P : Prg) (k : Nat) : lsS P (k + 1) = (lsS P k ++ fl (P.st k).nt (P.st k).th) ++ fl (P.st k).ne (P.st k).el := by simp [lsS, List.range_succ]
theorem lsP_len {P : Prg} (hs : P.small) {k : Nat} (hk : k ≤ P.np) : (lsP P k).length ≤ (k + 1) * 1048576 := by
  induction k with
  | zero => have := hs.nb; simp [lsP, fl_len]; omega
  | succ k ih =>
    have h1 := ih (by omega)
    have h2 := hs.pl k (by omega)
    rw [lsP_succ, List.length_append, fl_len]
    omega
theorem lsS_len {P : Prg} (hs : P.small) {k : Nat} (hk : k ≤ P.ns) : (lsS P k).length ≤ (P.np + 1 + 2 * k) * 1048576 := by
  induction k with
  | zero => have := lsP_len hs (Nat.le_refl P.np); simp [lsS]; omega
  | succ k ih =>
    have h1 := ih (by omega)
    have h2 := (hs.st k (by omega)).nt
    have h3 := (hs.st k (by omega)).ne
    rw [lsS_succ, List.length_append, List.length_append, fl_len, fl_len]
    omega

/-- Every number of a block is a later statement, and every statement stands in just one block. -/
def BlocksOk (P : Prg) : Prop := InR 0 P.ns P.nb P.bd ∧ (∀ j, j < P.np → InR 0 P.ns (P.pl j) (P.pb j)) ∧ (∀ j, j < P.ns → InR ((j + 1 : Nat) : Int) P.ns (P.st j).nt (P.st j).th ∧ InR ((j + 1 : Nat) : Int) P.ns (P.st j).ne (P.st j).el) ∧ ∀ m, m < P.ns → (lsS P P.ns).count (m : Int) = 1

theorem cnts_nil (ns : Nat) : Cnts (madeCells #[.int .i64 0] ns) ns [] := by
  refine ⟨size_madeCells _ _, fun m hm => ?_⟩
  have h1 : (madeCells #[Value.int .i64 0] ns).toList[m]? = some (.int .i64 0) := by rw [toList_madeCells_one, List.getElem?_replicate, if_pos hm]
  rw [← Array.getElem?_toList, h1]
  rfl

set_option maxRecDepth 100000 in
set_option maxHeartbeats 6400000 in
theorem specBlk_any (lo : Nat) (P : Prg) (Av Ax As Ap Ab : Option Addr) (cv cx cs cp cb : Nat) (w : World) (hs : P.small) (hnp : P.np ≤ 3) (hns : P.ns ≤ 24) (h : PgAt lo w Av Ax As Ap Ab P) :
    Calls Tryz.prog 39 #[.agg #[.slice Av P.nv cv, .slice Ax P.nx cx, .slice As P.ns cs, .slice Ap P.np cp, .slice Ab P.nb cb, .int .i64 P.fuel]] w (Yn (BlocksOk P) w) := by
  have hP := Box.new w 37 #[.slice Av P.nv cv, .slice Ax P.nx cx, .slice As P.ns cs, .slice Ap P.np cp, .slice Ab P.nb cb, .int .i64 P.fuel]
  have hB := (Below.refl w.heap.size w).alloc (Nat.le_refl _) (.cells #[.slice Av P.nv cv, .slice Ax P.nx cx, .slice As P.ns cs, .slice Ap P.np cp, .slice Ab P.nb cb, .int .i64 P.fuel] 37)
  have hmk := mk_int P.ns (by omega)
  obtain ⟨w1, hw1⟩ : ∃ w1, w1 = w.alloc (.cells #[.slice Av P.nv cv, .slice Ax P.nx cx, .slice As P.ns cs, .slice Ap P.np cp, .slice Ab P.nb cb, .int .i64 P.fuel] 37) := ⟨_, rfl⟩
  rw [← hw1] at hP hB
  have H := h.below hB (Nat.le_refl _)
  have HS := Lib.hid H.s
  have HP := Lib.hid H.p
  have HSM := Lib.hid hs
  have hnb := hs.nb
  obtain ⟨G, hG⟩ : ∃ G, G = w.heap.size + 1 := ⟨_, rfl⟩
  have hG1 : w1.heap.size = G := by rw [hw1, hG]; simp
  have hPG : w.heap.size ≠ G := by omega
  have hX := Box.new w1 3 (madeCells #[.int .i64 0] P.ns)
  rw [hG1] at hX
  have hal := (Below.refl w1.heap.size w1).alloc (Nat.le_refl _) (.cells (madeCells #[.int .i64 0] P.ns) 3)
  have hP2 := hP.alloc (.cells (madeCells #[.int .i64 0] P.ns) 3)
  have CB := Lib.hid (count_any lo w1 (w1.alloc (.cells (madeCells #[.int .i64 0] P.ns) 3)) Ab P.nb cb P.bd 0 P.ns G _ [] hnb (by omega) (by simp; omega) (by omega) H.b hal (by omega) hX (cnts_nil _))
  rw [show ([] : List Int) ++ fl P.nb P.bd = lsP P 0 by simp [lsP]] at CB
  clear h hs H
  obtain ⟨w2, hw2⟩ : ∃ w2, w2 = w1.alloc (.cells (madeCells #[.int .i64 0] P.ns) 3) := ⟨_, rfl⟩
  rw [← hw2] at hal hP2 hX CB
  obtain ⟨q0, q1, q2, q3, q4, q5, qf⟩ := hP.six
  obtain ⟨p0, p1, p2, p3, p4, p5, pf⟩ := hP2.six
  go_enter Tryz.func39, Tryz.ntmps39
  go_upto_region 2 with fail
  rw [← hw1, ← hG, ← hw2]
  have HG := Lib.hid hG
  clear hw1 hw2 hmk hG q0 q1 q2 q3 q4 q5 qf
  go_wp2_with (go_at_call 62; refine CB.out.mono ?_; rintro e w3 ⟨r0, rfl, hr0, hb0, ho0, cs0, hx0, hc0⟩; have hP3 := hP2.only ho0 hPG; clear p0 p1 p2 p3 p4 p5 pf; obtain ⟨p0, p1, p2, p3, p4, p5, pf⟩ := hP3.six)
  · go_ret
    exact Yn.no (fun h => absurd (hr0.out.2 h.1) (not_tt (by assumption))) (hB.trans (hb0.mono hB.size))
  rename (!r0) = false => hrf
  have F0 : Hid (InR 0 P.ns P.nb P.bd) := Lib.hid (hr0.out.1 (not_ff hrf))
  have Hc0 := Lib.hid (hc0.out (not_ff hrf))
  clear hrf hr0 hc0 CB p0 p1 p2 p3 p4 p5 pf hP2 hX hal
  go_loopg [20] P.np (fun q iv wr => ∃ (k : Nat) (cs : Array Value), k + q = P.np ∧ iv = .int .i64 (k : Nat) ∧ Hid (∀ j, j < k → InR 0 P.ns (P.pl j) (P.pb j)) ∧ Hid (Cnts cs P.ns (lsP P k)) ∧ Box wr G 3 cs ∧ Below w1.heap.size w1 wr ∧ Only G w3 wr)
  case atStart => exact ⟨0, cs0, by omega, rfl, Lib.hid fun j h => by omega, Hc0, hx0, hb0, Only.refl _ _⟩
  case round =>
    rename World => w4
    obtain ⟨k, cs1, hk, rfl, hq, hc, hbx, hbel, hon⟩ := hrel
    have hP4 := hP3.only hon hPG
    by_cases hk0 : k < P.np
    · obtain ⟨b, off, A1, c1, rfl, hb, r1, r2, g1⟩ := HP.out.at_ hk0
      have s1 := (hbel.cell (p := ⟨b, off + k * 2, none⟩) hb).trans r1
      have s2 := (hbel.cell (p := ⟨b, off + k * 2 + 1, none⟩) hb).trans r2
      have hV := Box.new w4 89 #[.string (P.pn k), .slice A1 (P.pl k) c1]
      have hal := (Below.refl w4.heap.size w4).alloc (Nat.le_refl _) (.cells #[.string (P.pn k), .slice A1 (P.pl k) c1] 89)
      obtain ⟨v0, v1, _, _⟩ := hV.two
      have hlen := lsP_len HSM.out (show k ≤ P.np by omega)
      have C := Lib.hid (count_any lo w1 _ A1 (P.pl k) c1 (P.pb k) 0 P.ns G cs1 (lsP P k) (HSM.out.pl k hk0) (by omega) (by have := HSM.out.pl k hk0; omega) (by omega) g1 (hbel.trans (hal.mono hbel.size)) (by omega) (hbx.below hal hbx.lt) hc.out)
      rw [← lsP_succ] at C
      clear g1 r1 r2 hlen
      go_wp2_with (go_at_call 62; refine C.out.mono ?_; rintro e w5 ⟨r, rfl, hr, hb5, ho5, cs5, hx5, hc5⟩)
      all_goals first
        | (go_ret
           exact Yn.no (fun h => absurd (hr.out.2 (h.2.1 k hk0)) (not_tt (by assumption))) (hB.trans (hb5.mono hB.size)))
        | (have hrt := not_ff (by assumption : (!r) = false)
           have HR := Lib.hid (hr.out.1 hrt)
           have HC5 := Lib.hid (hc5.out hrt)
           go_roundg (gk - 1)
           case rel => exact ⟨k + 1, cs5, by omega, by go_num, Lib.hid fun j hj => by
             by_cases hjk : j < k
             · exact hq.out j hjk
             · obtain rfl : j = k := by omega
               exact HR.out, HC5, hx5, hb5, hon.trans ((Only.below hal (Nat.le_refl _)).trans ho5)⟩
           case measure => omega)
    · obtain rfl : k = P.np := by omega
      obtain ⟨p0, p1, p2, p3, p4, p5, pf⟩ := hP4.six
      go_wp2_with fail
      have Hc1 : Hid (Cnts cs1 P.ns (lsS P 0)) := Lib.hid (by rw [show lsS P 0 = lsP P P.np by simp [lsS]]; exact hc.out)
      have hb4 := hbel
      clear p0 p1 p2 p3 p4 p5 pf hc hbel hb0
      go_loopg [33] P.ns (fun q iv wr => ∃ (k : Nat) (cs : Array Value), k + q = P.ns ∧ iv = .int .i64 (k : Nat) ∧ Hid (∀ j, j < k → InR ((j + 1 : Nat) : Int) P.ns (P.st j).nt (P.st j).th ∧ InR ((j + 1 : Nat) : Int) P.ns (P.st j).ne (P.st j).el) ∧ Hid (Cnts cs P.ns (lsS P k)) ∧ Box wr G 3 cs ∧ Below w1.heap.size w1 wr)
      case atStart => exact ⟨0, cs1, by omega, rfl, Lib.hid fun j h => by omega, Hc1, hbx, hb4⟩
      case round =>
        rename World => w6
        obtain ⟨k, cs6, hk6, rfl, hq6, hc6, hbx6, hbel6⟩ := hrel
        by_cases hk0 : k < P.ns
        · obtain ⟨b, off, A3, c3, A4, c4, A5, c5, rfl, hb, r0, r1, r2, r3, r4, r5, r6, r7, g3, g4, g5⟩ := HS.out.at_ hk0
          have s0 := (hbel6.cell (p := ⟨b, off + k * 8, none⟩) hb).trans r0
          have s1 := (hbel6.cell (p := ⟨b, off + k * 8 + 1, none⟩) hb).trans r1
          have s2 := (hbel6.cell (p := ⟨b, off + k * 8 + 2, none⟩) hb).trans r2
          have s3 := (hbel6.cell (p := ⟨b, off + k * 8 + 3, none⟩) hb).trans r3
          have s4 := (hbel6.cell (p := ⟨b, off + k * 8 + 4, none⟩) hb).trans r4
          have s5 := (hbel6.cell (p := ⟨b, off + k * 8 + 5, none⟩) hb).trans r5
          have s6 := (hbel6.cell (p := ⟨b, off + k * 8 + 6, none⟩) hb).trans r6
          have s7 := (hbel6.cell (p := ⟨b, off + k * 8 + 7, none⟩) hb).trans r7
          have hV := Box.new w6 77 #[.int .i64 (P.st k).kind, .int .i64 (P.st k).var, .int .i64 (P.st k).ex, .slice A3 (P.st k).nc c3, .slice A4 (P.st k).nt c4, .slice A5 (P.st k).ne c5, .int .i64 (P.st k).times, .int .i64 (P.st k).proc]
          have hal := (Below.refl w6.heap.size w6).alloc (Nat.le_refl _) (.cells #[.int .i64 (P.st k).kind, .int .i64 (P.st k).var, .int .i64 (P.st k).ex, .slice A3 (P.st k).nc c3, .slice A4 (P.st k).nt c4, .slice A5 (P.st k).ne c5, .int .i64 (P.st k).times, .int .i64 (P.st k).proc] 77)
          obtain ⟨v0, v1, v2, v3, v4, v5, v6, v7, vf⟩ := hV.eight
          have hlen := lsS_len HSM.out (show k ≤ P.ns by omega)
          have hst := HSM.out.st k hk0
          have hnt := hst.nt
          have hne := hst.ne
          have hVG : w6.heap.size ≠ G := by have := hbx6.lt; omega
          have C4 : Hid (Calls Tryz.prog 62 #[.slice A4 (P.st k).nt c4, .int .i64 ((k : Int) + 1), .slice (some ⟨G, 0, none⟩) P.ns P.ns] (w6.alloc (.cells #[.int .i64 (P.st k).kind, .int .i64 (P.st k).var, .int .i64 (P.st k).ex, .slice A3 (P.st k).nc c3, .slice A4 (P.st k).nt c4, .slice A5 (P.st k).ne c5, .int .i64 (P.st k).times, .int .i64 (P.st k).proc] 77)) (CntPost w1 (w6.alloc (.cells #[.int .i64 (P.st k).kind, .int .i64 (P.st k).var, .int .i64 (P.st k).ex, .slice A3 (P.st k).nc c3, .slice A4 (P.st k).nt c4, .slice A5 (P.st k).ne c5, .int .i64 (P.st k).times, .int .i64 (P.st k).proc] 77)) G P.ns (InR ((k + 1 : Nat) : Int) P.ns (P.st k).nt (P.st k).th) (lsS P k ++ fl (P.st k).nt (P.st k).th))) :=
            Lib.hid (count_any lo w1 _ A4 (P.st k).nt c4 (P.st k).th (k + 1) P.ns G cs6 (lsS P k) hnt (by omega) (by omega) (by omega) g4 (hbel6.trans (hal.mono hbel6.size)) (by omega) (hbx6.below hal hbx6.lt) hc6.out)
          have C5 : Hid (∀ (W : World) (cs : Array Value), Below w1.heap.size w1 W → Box W G 3 cs → Cnts cs P.ns (lsS P k ++ fl (P.st k).nt (P.st k).th) → Calls Tryz.prog 62 #[.slice A5 (P.st k).ne c5, .int .i64 ((k : Int) + 1), .slice (some ⟨G, 0, none⟩) P.ns P.ns] W (CntPost w1 W G P.ns (InR ((k + 1 : Nat) : Int) P.ns (P.st k).ne (P.st k).el) (lsS P (k + 1)))) :=
            Lib.hid fun W cs hW hx hc => by
              rw [lsS_succ]
              exact count_any lo w1 W A5 (P.st k).ne c5 (P.st k).el (k + 1) P.ns G cs _ hne (by omega) (by rw [List.length_append, fl_len]; omega) (by omega) g5 hW (by omega) hx hc
          clear g3 g4 g5 r0 r1 r2 r3 r4 r5 r6 r7 hlen hst hnt hne
          go_wp2_with (go_at_call 62
                       with_reducible refine C4.out.mono ?_
                       rintro e w7 ⟨r, rfl, hr, hb7, ho7, cs7, hx7, hc7⟩
                       have hV7 := hV.only ho7 hVG
                       clear v0 v1 v2 v3 v4 v5 v6 v7 vf
                       obtain ⟨v0, v1, v2, v3, v4, v5, v6, v7, vf⟩ := hV7.eight)
          rotate_left
          · go_ret
            exact Yn.no (fun h => absurd (hr.out.2 (h.2.2.1 k hk0).1) (by first | assumption | exact not_tt (by assumption))) (hB.trans (hb7.mono hB.size))
          have hrt : r = true := by first | assumption | exact not_ff (by assumption)
          have HR := Lib.hid (hr.out.1 hrt)
          have HC7 := Lib.hid (hc7.out hrt)
          clear hrt
          go_wp2_with (go_at_call 62
                       with_reducible refine (C5.out _ cs7 hb7 hx7 HC7.out).mono ?_
                       rintro e w8 ⟨r', rfl, hr', hb8, ho8, cs8, hx8, hc8⟩)
          all_goals first
            | (go_ret
               exact Yn.no (fun h => absurd (hr'.out.2 (h.2.2.1 k hk0).2) (by first | assumption | exact not_tt (by assumption))) (hB.trans (hb8.mono hB.size)))
            | (have hrt := (by first | assumption | exact not_ff (by assumption) : r' = true)
               have HR' := Lib.hid (hr'.out.1 hrt)
               have HC8 := Lib.hid (hc8.out hrt)
               clear hrt
               go_roundg (gk - 1)
               case rel => exact ⟨k + 1, cs8, by omega, by go_num, Lib.hid fun j hj => by
                 by_cases hjk : j < k
                 · exact hq6.out j hjk
                 · obtain rfl : j = k := by omega
                   exact ⟨HR.out, HR'.out⟩, HC8, hx8, hb8⟩
               case measure => omega)
        · obtain rfl : k = P.ns := by omega
          go_wp2_with (go_at_call 63; refine (allOnes_any G P.ns cs6 _ _ (by omega) hbx6 hc6.out).mono ?_; rintro e w9 ⟨r, rfl, hr, hb9⟩)
          go_ret
          exact ⟨r, rfl, Lib.hid ⟨fun h => ⟨F0.out, hq.out, hq6.out, hr.out.1 h⟩, fun h => hr.out.2 h.2.2.2⟩, hB.trans ((hbel6.trans (hb9.mono hbel6.size)).mono hB.size)⟩

end Go.Proofs.YtoaiejodbmkbjaaGreatDoor
