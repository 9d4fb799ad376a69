/-
  UnreadVars: the model's. (Written by gen_pgur.py.)
-/
import Derived.Test.YtcdgbjklfmlhkaaPgUr4
namespace Go.Proofs.Ytcdgbjklfmlhkaa
open Go.RowKit Num

set_option maxRecDepth 100000 in
set_option maxHeartbeats 6400000 in
theorem specUr_any1 (lo : Nat) (P : Prg) (Av Ax As Ap Ab : Option Addr) (cv cx cs cp cb : Nat) (w : World) (hs : P.small) (hcv : P.nv ≤ cv) (hcp : P.np ≤ cp) (h : PgAt lo w Av Ax As Ap Ab P) (F0 : ¬ PgOk P) :
    Calls Try.prog 32 #[.agg #[.slice Av P.nv cv, .slice Ax P.nx cx, .slice As P.ns cs, .slice Ap P.np cp, .slice Ab P.nb cb, .int .i64 P.fuel]] w fun e w' => ∃ A c, e = .returned (.tuple #[.slice A (([] : List Int)).length c, .bool false]) ∧ LsAt w.heap.size w' A (([] : List Int)) ∧ Below w.heap.size w w' := by
  have hP := Box.new w 37 #[.slice Av P.nv cv, .slice Ax P.nx cx, .slice As P.ns cs, .slice Ap P.np cp, .slice Ab P.nb cb, .int .i64 P.fuel]
  have hB := (Below.refl w.heap.size w).alloc (Nat.le_refl _) (.cells #[.slice Av P.nv cv, .slice Ax P.nx cx, .slice As P.ns cs, .slice Ap P.np cp, .slice Ab P.nb cb, .int .i64 P.fuel] 37)
  obtain ⟨q0, q1, q2, q3, q4, q5, qf⟩ := hP.six
  have H := Lib.hid h
  have HSM := Lib.hid hs
  clear h hs
  have F := Lib.hid F0
  clear F0
  go_enter Try.func32, Try.ntmps32
  go_wp2_with (first
      | (go_at_call 46
         refine (specVal_any lo P Av _ _ Ap Ab cv cx cs cp cb _ HSM.out hcv hcp (H.out.below hB (Nat.le_refl _))).mono ?_
         rintro e w1 ⟨r, rfl, hr, hb⟩
         obtain rfl : r = false := by cases r with | false => rfl | true => exact absurd (hr.out.1 rfl) F.out
         clear q0 q1 q2 q3 q4 q5 qf hr
         replace hP := hP.below hb hP.lt
         replace hB := hB.trans (hb.mono hB.size)
         clear hb
         obtain ⟨q0, q1, q2, q3, q4, q5, qf⟩ := hP.six))
  go_ret2
  exact ⟨none, 0, rfl, fun h => absurd h (Nat.lt_irrefl 0), hB⟩

set_option maxRecDepth 100000 in
set_option maxHeartbeats 6400000 in
theorem specUr_any2 (lo : Nat) (P : Prg) (Av Ax As Ap Ab : Option Addr) (cv cx cs cp cb : Nat) (w : World) (hs : P.small) (hcv : P.nv ≤ cv) (hcp : P.np ≤ cp) (h : PgAt lo w Av Ax As Ap Ab P) (F0 : PgOk P) :
    Calls Try.prog 32 #[.agg #[.slice Av P.nv cv, .slice Ax P.nx cx, .slice As P.ns cs, .slice Ap P.np cp, .slice Ab P.nb cb, .int .i64 P.fuel]] w fun e w' => ∃ A c, e = .returned (.tuple #[.slice A (ups (fun j => !rdS P P.ns j) P.nv).length c, .bool true]) ∧ LsAt w.heap.size w' A (ups (fun j => !rdS P P.ns j) P.nv) ∧ Below w.heap.size w w' := by
  obtain ⟨u, hu⟩ : ∃ u : Nat → Bool, u = fun j => !rdS P P.ns j := ⟨_, rfl⟩
  rw [← hu]
  have HU0 : Hid (∀ j, u j = !rdS P P.ns j) := Lib.hid fun j => by rw [hu]
  clear hu
  have hP := Box.new w 37 #[.slice Av P.nv cv, .slice Ax P.nx cx, .slice As P.ns cs, .slice Ap P.np cp, .slice Ab P.nb cb, .int .i64 P.fuel]
  have hB := (Below.refl w.heap.size w).alloc (Nat.le_refl _) (.cells #[.slice Av P.nv cv, .slice Ax P.nx cx, .slice As P.ns cs, .slice Ap P.np cp, .slice Ab P.nb cb, .int .i64 P.fuel] 37)
  obtain ⟨q0, q1, q2, q3, q4, q5, qf⟩ := hP.six
  have H := Lib.hid h
  have HSM := Lib.hid hs
  clear h hs
  have F := Lib.hid F0
  have hnv : P.nv ≤ 5 := F0.1.2.2
  have hnx := F0.2.1.1
  have hns := F0.2.2.2.1
  have HX := Lib.hid F0.2.1.2
  have HST := Lib.hid F0.2.2.2.2.2.1
  have hmk := mk_bool P.nv (by omega)
  clear F0
  go_enter Try.func32, Try.ntmps32
  go_wp2_with (first
      | (go_at_call 46
         refine (specVal_any lo P Av _ _ Ap Ab cv cx cs cp cb _ HSM.out hcv hcp (H.out.below hB (Nat.le_refl _))).mono ?_
         rintro e w1 ⟨r, rfl, hr, hb⟩
         obtain rfl : r = true := hr.out.2 F.out
         clear q0 q1 q2 q3 q4 q5 qf hr
         replace hP := hP.below hb hP.lt
         replace hB := hB.trans (hb.mono hB.size)
         clear hb
         obtain ⟨q0, q1, q2, q3, q4, q5, qf⟩ := hP.six
         have p2 := (hP.alloc (.cells (madeCells #[.bool false] P.nv) 4)).cell 2))
  rename World => w1
  have hX := Box.new w1 4 (madeCells #[.bool false] P.nv)
  have hB2 := hB.alloc hB.size (.cells (madeCells #[.bool false] P.nv) 4)
  have hP2 := hP.alloc (.cells (madeCells #[.bool false] P.nv) 4)
  obtain ⟨G, hG⟩ : ∃ G, G = w1.heap.size := ⟨_, rfl⟩
  have hPG : w.heap.size ≠ G := by rw [hG]; exact Nat.ne_of_lt hP.lt
  have hGlo : w.heap.size ≤ G := by rw [hG]; exact hB.size
  rw [← hG] at hX ⊢
  obtain ⟨w2, hw2⟩ : ∃ w2, w2 = w1.alloc (.cells (madeCells #[.bool false] P.nv) 4) := ⟨_, rfl⟩
  rw [← hw2] at hX hB2 hP2 ⊢
  clear hP hB hw2 hG hmk q0 q1 q2 q3 q4 q5 qf p2
  go_loopg [22] P.ns (fun q iv wr => ∃ (k : Nat) (ms : Array Value), k + q = P.ns ∧ iv = .int .i64 (k : Nat) ∧ Hid (BoolsC ms P.nv (rdS P k)) ∧ Box wr G 4 ms ∧ Box wr w.heap.size 37 #[.slice Av P.nv cv, .slice Ax P.nx cx, .slice As P.ns cs, .slice Ap P.np cp, .slice Ab P.nb cb, .int .i64 P.fuel] ∧ Below w.heap.size w wr)
  case atStart => exact ⟨0, _, by omega, rfl, Lib.hid (rd_zero P ▸ BoolsC.falses P.nv), hX, hP2, hB2⟩
  case round =>
    rename World => w4
    obtain ⟨k, ms, hk, rfl, hc, hbx, hP, hB⟩ := hrel
    obtain ⟨q0, q1, q2, q3, q4, q5, qf⟩ := hP.six
    by_cases hk0 : k < P.ns
    · obtain ⟨b, off, A3, c3, A4, c4, A5, c5, rfl, hb, r0, r1, r2, r3, r4, r5, r6, r7, g3, g4, g5⟩ := (H.out.below hB (Nat.le_refl _)).s.at_ hk0
      clear g3 g4 g5
      have hV8 := Box.new w4 110 #[.int .i64 (P.st k).kind, .int .i64 (P.st k).var, .int .i64 (P.st k).ex, .slice A3 (P.st k).nc c3, .slice A4 (P.st k).nt c4, .slice A5 (P.st k).ne c5, .int .i64 (P.st k).times, .int .i64 (P.st k).proc]
      obtain ⟨v0, v1, v2, v3, v4, v5, v6, v7, vf⟩ := hV8.eight
      by_cases hkk : Has (P.st k).kind
      · have HK := Lib.hid hkk
        obtain ⟨e0, e1⟩ := has_ex (HST.out k hk0) hkk
        obtain ⟨e, he⟩ : ∃ e : Nat, (P.st k).ex = (e : Int) := ⟨(P.st k).ex.toNat, by omega⟩
        have hex : e < P.nx := by omega
        obtain ⟨xs, hxs⟩ : ∃ xs, xs = ups (vI P.ex e (e + 1)) 5 := ⟨_, rfl⟩
        have hxl : xs.length ≤ 5 := by rw [hxs]; exact ups_le _ _
        have HR : Hid (rdS P (k + 1) = putL (rdS P k) xs) := Lib.hid (by rw [rd_yes hkk, he, Int.toNat_natCast, hxs])
        have HE := Lib.hid he
        have HXS := Lib.hid hxs
        clear hkk e0 e1 he hxs
        go_wp2_with (first
          | (go_at_call 82
             refine (specHas_any (P.st k) A3 A4 A5 c3 c4 c5 _).mono ?_
             rintro e w5 ⟨r, rfl, hr, hb5⟩
             obtain rfl : r = true := hr.out.2 HK.out
             have hbx5 := (hbx.alloc (.cells #[.int .i64 (P.st k).kind, .int .i64 (P.st k).var, .int .i64 (P.st k).ex, .slice A3 (P.st k).nc c3, .slice A4 (P.st k).nt c4, .slice A5 (P.st k).ne c5, .int .i64 (P.st k).times, .int .i64 (P.st k).proc] 110)).below hb5 (hbx.alloc (.cells #[.int .i64 (P.st k).kind, .int .i64 (P.st k).var, .int .i64 (P.st k).ex, .slice A3 (P.st k).nc c3, .slice A4 (P.st k).nt c4, .slice A5 (P.st k).ne c5, .int .i64 (P.st k).times, .int .i64 (P.st k).proc] 110)).lt
             have hP5 := (hP.alloc (.cells #[.int .i64 (P.st k).kind, .int .i64 (P.st k).var, .int .i64 (P.st k).ex, .slice A3 (P.st k).nc c3, .slice A4 (P.st k).nt c4, .slice A5 (P.st k).ne c5, .int .i64 (P.st k).times, .int .i64 (P.st k).proc] 110)).below hb5 (hP.alloc (.cells #[.int .i64 (P.st k).kind, .int .i64 (P.st k).var, .int .i64 (P.st k).ex, .slice A3 (P.st k).nc c3, .slice A4 (P.st k).nt c4, .slice A5 (P.st k).ne c5, .int .i64 (P.st k).times, .int .i64 (P.st k).proc] 110)).lt
             have hB5 := (hB.alloc hB.size (.cells #[.int .i64 (P.st k).kind, .int .i64 (P.st k).var, .int .i64 (P.st k).ex, .slice A3 (P.st k).nc c3, .slice A4 (P.st k).nt c4, .slice A5 (P.st k).ne c5, .int .i64 (P.st k).times, .int .i64 (P.st k).proc] 110)).trans (hb5.mono (hB.alloc hB.size (.cells #[.int .i64 (P.st k).kind, .int .i64 (P.st k).var, .int .i64 (P.st k).ex, .slice A3 (P.st k).nc c3, .slice A4 (P.st k).nt c4, .slice A5 (P.st k).ne c5, .int .i64 (P.st k).times, .int .i64 (P.st k).proc] 110)).size)
             have hV5 := hV8.below hb5 hV8.lt
             clear hr hb5 v0 v1 v2 v3 v4 v5 v6 v7 vf q0 q1 q2 q3 q4 q5 qf
             obtain ⟨v0, v1, v2, v3, v4, v5, v6, v7, vf⟩ := hV5.eight
             obtain ⟨q0, q1, q2, q3, q4, q5, qf⟩ := hP5.six)
          | (go_at_call 62
             rw [HE.out]
             refine (varsOf_any lo P Av Ax _ Ap Ab cv cx cs cp cb e _ HX.out hnx hnv hex (H.out.below hB5 (Nat.le_refl _)).x).mono ?_
             rintro r6 w6 ⟨A6, c6, rfl, hl6, hb6⟩
             rw [← HXS.out] at hl6 ⊢
             have hGL := hbx5.lt
             have hbx6 := hbx5.below hb6 hbx5.lt
             have hP6 := hP5.below hb6 hP5.lt
             have hB6 := hB5.trans (hb6.mono hB5.size)
             clear hb6 v0 v1 v2 v3 v4 v5 v6 v7 vf q0 q1 q2 q3 q4 q5 qf))
        go_loopg [33] xs.length (fun q iv wr => ∃ (j : Nat) (ms : Array Value), j + q = xs.length ∧ iv = .int .i64 (j : Nat) ∧ Hid (BoolsC ms P.nv (putL (rdS P k) (xs.take j))) ∧ Box wr G 4 ms ∧ Box wr w.heap.size 37 #[.slice Av P.nv cv, .slice Ax P.nx cx, .slice (some ⟨b, off, none⟩) P.ns cs, .slice Ap P.np cp, .slice Ab P.nb cb, .int .i64 P.fuel] ∧ Below w.heap.size w wr ∧ IntsAt (G + 1) wr A6 xs.length (fun j => xs.getD j 0))
        case atStart => exact ⟨0, ms, by omega, rfl, Lib.hid (by rw [List.take_zero]; exact hc.out), hbx6, hP6, hB6, IntsAt.low hl6 hGL⟩
        case round =>
          rename World => w7
          obtain ⟨j, ms7, hj, rfl, hc7, hbx7, hP7, hB7, hl7⟩ := hrel
          by_cases hj0 : j < xs.length
          · obtain ⟨b7, off7, rfl, hb7, y7⟩ := hl7.at_ hj0
            obtain ⟨v, hv, hv5, hvt⟩ : ∃ v : Nat, xs.getD j 0 = (v : Int) ∧ v < 5 ∧ vI P.ex e (e + 1) v = true := by rw [HXS.out]; exact ups_get (by rw [← HXS.out]; exact hj0)
            have hvn := vI_lt HX.out hex hvt
            have HS : Hid (putL (rdS P k) (xs.take (j + 1)) = setU (putL (rdS P k) (xs.take j)) v) := Lib.hid (by rw [putL_take _ _ hj0, hv, Int.toNat_natCast])
            rw [hv] at y7
            have k0 := hc7.out.at_ hbx7 hvn
            have f0 := hbx7.free v
            have hvi : (v : Int) < (P.nv : Int) := by omega
            clear hv hvt
            go_wp2_with fail
            go_roundg (gk - 1)
            case rel => exact ⟨j + 1, _, by omega, by go_num, Lib.hid (by rw [HS.out]; exact hc7.out.put hvn), hbx7.set v _, hP7.far (Ne.symm hPG) _ _, hB7.setCell (p := ⟨G, v, none⟩) hGlo _, hl7.keep (Keeps.set _ (Nat.lt_succ_self G) v _)⟩
            case measure => omega
          · obtain rfl : j = xs.length := by omega
            go_wp2_with fail
            go_roundg (P.ns - (k + 1))
            case rel => exact ⟨k + 1, ms7, by omega, by go_num, Lib.hid (by have := hc7.out; rw [List.take_length, ← HR.out] at this; exact this), hbx7, hP7, hB7⟩
            case measure => omega
      · have HK := Lib.hid hkk
        have HR : Hid (rdS P (k + 1) = rdS P k) := Lib.hid (rd_no hkk)
        clear hkk
        go_wp2_with (first
          | (go_at_call 82
             refine (specHas_any (P.st k) A3 A4 A5 c3 c4 c5 _).mono ?_
             rintro e w5 ⟨r, rfl, hr, hb5⟩
             obtain rfl : r = false := by cases r with | false => rfl | true => exact absurd (hr.out.1 rfl) HK.out
             have hbx5 := (hbx.alloc (.cells #[.int .i64 (P.st k).kind, .int .i64 (P.st k).var, .int .i64 (P.st k).ex, .slice A3 (P.st k).nc c3, .slice A4 (P.st k).nt c4, .slice A5 (P.st k).ne c5, .int .i64 (P.st k).times, .int .i64 (P.st k).proc] 110)).below hb5 (hbx.alloc (.cells #[.int .i64 (P.st k).kind, .int .i64 (P.st k).var, .int .i64 (P.st k).ex, .slice A3 (P.st k).nc c3, .slice A4 (P.st k).nt c4, .slice A5 (P.st k).ne c5, .int .i64 (P.st k).times, .int .i64 (P.st k).proc] 110)).lt
             have hP5 := (hP.alloc (.cells #[.int .i64 (P.st k).kind, .int .i64 (P.st k).var, .int .i64 (P.st k).ex, .slice A3 (P.st k).nc c3, .slice A4 (P.st k).nt c4, .slice A5 (P.st k).ne c5, .int .i64 (P.st k).times, .int .i64 (P.st k).proc] 110)).below hb5 (hP.alloc (.cells #[.int .i64 (P.st k).kind, .int .i64 (P.st k).var, .int .i64 (P.st k).ex, .slice A3 (P.st k).nc c3, .slice A4 (P.st k).nt c4, .slice A5 (P.st k).ne c5, .int .i64 (P.st k).times, .int .i64 (P.st k).proc] 110)).lt
             have hB5 := (hB.alloc hB.size (.cells #[.int .i64 (P.st k).kind, .int .i64 (P.st k).var, .int .i64 (P.st k).ex, .slice A3 (P.st k).nc c3, .slice A4 (P.st k).nt c4, .slice A5 (P.st k).ne c5, .int .i64 (P.st k).times, .int .i64 (P.st k).proc] 110)).trans (hb5.mono (hB.alloc hB.size (.cells #[.int .i64 (P.st k).kind, .int .i64 (P.st k).var, .int .i64 (P.st k).ex, .slice A3 (P.st k).nc c3, .slice A4 (P.st k).nt c4, .slice A5 (P.st k).ne c5, .int .i64 (P.st k).times, .int .i64 (P.st k).proc] 110)).size)
             have hV5 := hV8.below hb5 hV8.lt
             clear hr hb5 v0 v1 v2 v3 v4 v5 v6 v7 vf q0 q1 q2 q3 q4 q5 qf
             obtain ⟨v0, v1, v2, v3, v4, v5, v6, v7, vf⟩ := hV5.eight
             obtain ⟨q0, q1, q2, q3, q4, q5, qf⟩ := hP5.six))
        go_roundg (gk - 1)
        case rel => exact ⟨k + 1, ms, by omega, by go_num, Lib.hid (by rw [HR.out]; exact hc.out), hbx5, hP5, hB5⟩
        case measure => omega
    · obtain rfl : k = P.ns := by omega
      obtain ⟨i0, ji, jz0, jz1, jz2⟩ := info_three Try.infoInt3
      go_wp2_with fail
      go_loopg [9, 44] P.nv (fun q lv iv wr => ∃ (j m : Nat), j + q = P.nv ∧ iv = .int .i64 (j : Nat) ∧ Hid (m = (ups u j).length) ∧ wr.ownsRow w4.heap.size 3 1 lv m (cellsL (ups u j)) ∧ Below w4.heap.size w4 wr)
      case atStart => exact ⟨0, 0, by omega, rfl, Lib.hid rfl, ⟨rfl, .inl ⟨rfl, rfl⟩⟩, Below.refl _ _⟩
      case round =>
        rename World => w7
        obtain ⟨j, m, hj, rfl, hm, hown, hbel⟩ := hrel
        have hmk : m ≤ j := by rw [hm.out]; exact ups_le u j
        have hbx7 := hbx.below hbel hbx.lt
        have hsz := hbel.size
        by_cases hj0 : j < P.nv
        · have y0 := hc.out.at_ hbx7 hj0
          have hji : (j : Int) < (P.nv : Int) := by omega
          cases hr : rdS P P.ns j with
          | false =>
            have HU := Lib.hid (show ups u (j + 1) = ups u j ++ [(j : Int)] by rw [ups_succ, HU0.out, hr]; rfl)
            rw [hr] at y0
            clear hr
            go_wp2_with (at_builtin; refine wpList_append_own _ rfl _ _ 26 rfl w4.heap.size 3 i0 (.int .i64 0) 1 8 Try.underlying26 ji jz0 jz1 jz2 rfl (by decide) _ m _ rfl (hown.alloc _) ⟨w7.heap.size, 0, none⟩ 1 1 [.int .i64 (j : Nat)] rfl rfl (cell_one_new _ _ _) (one_int _ _) (by unfold maxLen; omega) (by omega) (by simp; omega) ?_; intro v6 w6 hown6 hgrow6 _)
            go_roundg (gk - 1)
            case rel =>
              refine ⟨j + 1, m + 1, by omega, by go_num, Lib.hid (by rw [HU.out, List.length_append, ← hm.out]; rfl), ?_, (hbel.alloc hsz _).grown hgrow6 (by simp; omega) (fun r hr => (hown.lt r hr).1)⟩
              rw [HU.out, cellsL_app]
              exact hown6
            case measure => omega
          | true =>
            have HU := Lib.hid (show ups u (j + 1) = ups u j by rw [ups_succ, HU0.out, hr]; simp)
            rw [hr] at y0
            clear hr
            go_wp2_with fail
            go_roundg (gk - 1)
            case rel => exact ⟨j + 1, m, by omega, by go_num, Lib.hid (by rw [HU.out]; exact hm.out), by rw [HU.out]; exact hown, hbel⟩
            case measure => omega
        · obtain rfl : j = P.nv := by omega
          rcases hown.2 with ⟨rfl, h0⟩ | ⟨g, cap, cur, rfl, h5⟩
          · have hl0 : (ups u P.nv).length = 0 := by rw [← hm.out]; exact h0
            go_wp2_with fail
            go_ret2
            exact ⟨none, 0, by rw [hl0]; rfl, fun h => by omega, hB.trans (hbel.mono hB.size)⟩
          · have hA := (LsAt.of_own hown).2
            go_wp2_with fail
            go_ret2
            exact ⟨_, cap, by rw [← hm.out]; rfl, hA.low hB.size, hB.trans (hbel.mono hB.size)⟩

theorem specUr_any (lo : Nat) (P : Prg) (Av Ax As Ap Ab : Option Addr) (cv cx cs cp cb : Nat) (w : World) (hs : P.small) (hcv : P.nv ≤ cv) (hcp : P.np ≤ cp) (h : PgAt lo w Av Ax As Ap Ab P) :
    Calls Try.prog 32 #[.agg #[.slice Av P.nv cv, .slice Ax P.nx cx, .slice As P.ns cs, .slice Ap P.np cp, .slice Ab P.nb cb, .int .i64 P.fuel]] w fun e w' => ∃ A c, e = .returned (.tuple #[.slice A (urN P) c, .bool (urB P)]) ∧ IntsAt w.heap.size w' A (urN P) (urF P) ∧ Below w.heap.size w w' := by
  by_cases F0 : PgOk P
  · have hy := ur_yes F0
    refine (specUr_any2 lo P Av Ax As Ap Ab cv cx cs cp cb w hs hcv hcp h F0).mono ?_
    rintro e w' ⟨A, c, he, hl, hb⟩
    exact ⟨A, c, by rw [urN, hy.1, hy.2]; exact he, by unfold urN urF; rw [hy.1]; exact hl, hb⟩
  · have hy := ur_no F0
    refine (specUr_any1 lo P Av Ax As Ap Ab cv cx cs cp cb w hs hcv hcp h F0).mono ?_
    rintro e w' ⟨A, c, he, hl, hb⟩
    exact ⟨A, c, by rw [urN, hy.1, hy.2]; exact he, by unfold urN urF; rw [hy.1]; exact hl, hb⟩

end Go.Proofs.Ytcdgbjklfmlhkaa
