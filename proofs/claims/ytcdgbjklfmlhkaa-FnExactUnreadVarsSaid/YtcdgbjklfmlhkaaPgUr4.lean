/-
  UnreadVars: the program's. (Written by gen_pgur.py.)
-/
import Derived.Test.YtcdgbjklfmlhkaaPgUr3
namespace Go.Proofs.Ytcdgbjklfmlhkaa
open Go.RowKit Num

theorem rd_zero (P : Prg) : rdS P 0 = fun _ => false := by rw [rdS]
theorem trues_bools (n : Nat) : BoolsC (trues n n).toArray n (fun j => !((fun _ => false) : Nat → Bool) j) :=
  ⟨by rw [List.size_toArray, trues_len n n (Nat.le_refl _)], fun j hj => by rw [List.getElem?_toArray]; exact trues_get hj⟩
theorem rep_ex (b n : Nat) (w : World) (hn : n ≤ 5) (hb : b < w.heap.size) (hc : w.cell? ⟨b, 0, none⟩ = some (.bool true)) :
    Calls Try.prog 83 #[.slice (some ⟨b, 0, none⟩) 1 1, .int .i64 (n : Nat)] w fun e w' => ∃ G, e = .returned (.slice (some ⟨G, 0, none⟩) n n) ∧ w.heap.size ≤ G ∧ Box w' G 4 (trues n n).toArray ∧ Below w.heap.size w w' :=
  (rep_any b n w hn hb hc).mono fun _ _ ⟨h1, h2, h3⟩ => ⟨_, h1, Nat.le_refl _, h2, h3⟩

theorem occ_at (b off cap e m : Nat) (X : Nat → Nat → Int) (w : World) (hx : exsOk X m (e + 1) = true) (hm : m ≤ 5) (hn : e + 1 ≤ 40) (hb : b < w.heap.size) (hc : ∀ j, j < e + 1 → ∀ c, c < 4 → w.cell? ⟨b, off + (j * 4 + c), none⟩ = some (.int .i64 (X j c))) :
    Calls Try.prog 63 #[.slice (some ⟨b, off, none⟩) ((e + 1 : Nat)) cap] w fun r W' => ∃ A1 c1, r = .returned (.slice A1 (ups (vI X e (e + 1)) 5).length c1) ∧ LsAt w.heap.size W' A1 (ups (vI X e (e + 1)) 5) ∧ Below w.heap.size w W' :=
  callsIn_wide.1 (occ_in b off cap (e + 1) m X w hx hm (Nat.succ_pos _) hn hb hc)

set_option maxRecDepth 100000 in
set_option maxHeartbeats 6400000 in
theorem implUr_any1 (lo : Nat) (P : Prg) (Av Ax As Ap Ab : Option Addr) (cv cx cs cp cb : Nat) (w : World) (hs : P.small) (_hcx : P.nx ≤ cx) (h : PgAt lo w Av Ax As Ap Ab P) (F0 : ¬ PgOk P) :
    Calls Try.prog 33 #[.agg #[.slice Av P.nv cv, .slice Ax P.nx cx, .slice As P.ns cs, .slice Ap P.np cp, .slice Ab P.nb cb, .int .i64 P.fuel]] w fun e w' => ∃ A c, e = .returned (.tuple #[.slice A (([] : List Int)).length c, .bool false]) ∧ LsAt w.heap.size w' A (([] : List Int)) ∧ Below w.heap.size w w' := by
  have hP := Box.new w 37 #[.slice Av P.nv cv, .slice Ax P.nx cx, .slice As P.ns cs, .slice Ap P.np cp, .slice Ab P.nb cb, .int .i64 P.fuel]
  have hB := (Below.refl w.heap.size w).alloc (Nat.le_refl _) (.cells #[.slice Av P.nv cv, .slice Ax P.nx cx, .slice As P.ns cs, .slice Ap P.np cp, .slice Ab P.nb cb, .int .i64 P.fuel] 37)
  obtain ⟨q0, q1, q2, q3, q4, q5, qf⟩ := hP.six
  have H := Lib.hid h
  have HSM := Lib.hid hs
  clear h hs
  have F := Lib.hid F0
  clear F0
  go_enter Try.func33, Try.ntmps33
  go_wp2_with (first
      | (go_at_call 54
         refine (implValid_any lo P Av _ _ Ap Ab cv cx cs cp cb _ HSM.out (H.out.below hB (Nat.le_refl _))).mono ?_
         rintro e w1 ⟨r, rfl, hr, hb⟩
         obtain rfl : r = false := by cases r with | false => rfl | true => exact absurd (hr.out.1 rfl) F.out
         clear q0 q1 q2 q3 q4 q5 qf hr
         replace hP := hP.below hb hP.lt
         replace hB := hB.trans (hb.mono hB.size)
         clear hb
         obtain ⟨q0, q1, q2, q3, q4, q5, qf⟩ := hP.six))
  go_ret2
  exact ⟨none, 0, rfl, fun h => absurd h (Nat.lt_irrefl 0), hB⟩

set_option maxRecDepth 100000 in
set_option maxHeartbeats 6400000 in
theorem implUr_any2 (lo : Nat) (P : Prg) (Av Ax As Ap Ab : Option Addr) (cv cx cs cp cb : Nat) (w : World) (hs : P.small) (hcx : P.nx ≤ cx) (h : PgAt lo w Av Ax As Ap Ab P) (F0 : PgOk P) :
    Calls Try.prog 33 #[.agg #[.slice Av P.nv cv, .slice Ax P.nx cx, .slice As P.ns cs, .slice Ap P.np cp, .slice Ab P.nb cb, .int .i64 P.fuel]] w fun e w' => ∃ A c, e = .returned (.tuple #[.slice A (ups (fun j => !rdS P P.ns j) P.nv).length c, .bool true]) ∧ LsAt w.heap.size w' A (ups (fun j => !rdS P P.ns j) P.nv) ∧ Below w.heap.size w w' := by
  have hP := Box.new w 37 #[.slice Av P.nv cv, .slice Ax P.nx cx, .slice As P.ns cs, .slice Ap P.np cp, .slice Ab P.nb cb, .int .i64 P.fuel]
  have hB := (Below.refl w.heap.size w).alloc (Nat.le_refl _) (.cells #[.slice Av P.nv cv, .slice Ax P.nx cx, .slice As P.ns cs, .slice Ap P.np cp, .slice Ab P.nb cb, .int .i64 P.fuel] 37)
  obtain ⟨q0, q1, q2, q3, q4, q5, qf⟩ := hP.six
  have H := Lib.hid h
  have HSM := Lib.hid hs
  clear h hs
  have F := Lib.hid F0
  have hnv : P.nv ≤ 5 := F0.1.2.2
  have hnx := F0.2.1.1
  have hns := F0.2.2.2.1
  have HX := Lib.hid F0.2.1.2
  have HST := Lib.hid F0.2.2.2.2.2.1
  
  clear F0
  go_enter Try.func33, Try.ntmps33
  go_wp2_with (first
      | (go_at_call 54
         refine (implValid_any lo P Av _ _ Ap Ab cv cx cs cp cb _ HSM.out (H.out.below hB (Nat.le_refl _))).mono ?_
         rintro e w1 ⟨r, rfl, hr, hb⟩
         obtain rfl : r = true := hr.out.2 F.out
         clear q0 q1 q2 q3 q4 q5 qf hr
         replace hP := hP.below hb hP.lt
         replace hB := hB.trans (hb.mono hB.size)
         clear hb
         obtain ⟨q0, q1, q2, q3, q4, q5, qf⟩ := hP.six
         have p0 := (hP.alloc (.cells #[.bool true] 4)).cell 0)
      | (go_at_call 83
         refine (rep_ex _ P.nv _ hnv (by simp) ((Box.new _ _ _).cell 0)).mono ?_
         rintro e w2 ⟨G, rfl, hGw, hX, hb2⟩
         have hB2 := (hB.alloc hB.size (.cells #[.bool true] 4)).trans (hb2.mono (hB.alloc hB.size (.cells #[.bool true] 4)).size)
         have hP1 := hP.alloc (.cells #[.bool true] 4)
         have hP2 := hP1.below hb2 hP1.lt
         have hPG : w.heap.size ≠ G := Nat.ne_of_lt (Nat.lt_of_lt_of_le hP1.lt hGw)
         have hGlo : w.heap.size ≤ G := Nat.le_of_lt (Nat.lt_of_lt_of_le hP1.lt hGw)
         clear hP1 hb2 hGw q0 q1 q2 q3 q4 q5 qf p0 hP hB
         obtain ⟨q0, q1, q2, q3, q4, q5, qf⟩ := hP2.six))
  clear q0 q1 q2 q3 q4 q5 qf
  go_loopg [20] P.ns (fun q iv wr => ∃ (k : Nat) (ms : Array Value), k + q = P.ns ∧ iv = .int .i64 (k : Nat) ∧ Hid (BoolsC ms P.nv (fun i => !(rdS P k) i)) ∧ Box wr G 4 ms ∧ Box wr w.heap.size 37 #[.slice Av P.nv cv, .slice Ax P.nx cx, .slice As P.ns cs, .slice Ap P.np cp, .slice Ab P.nb cb, .int .i64 P.fuel] ∧ Below w.heap.size w wr)
  case atStart => exact ⟨0, _, by omega, rfl, Lib.hid (rd_zero P ▸ trues_bools P.nv), hX, hP2, hB2⟩
  case round =>
    rename World => w4
    obtain ⟨k, ms, hk, rfl, hc, hbx, hP, hB⟩ := hrel
    obtain ⟨q0, q1, q2, q3, q4, q5, qf⟩ := hP.six
    by_cases hk0 : k < P.ns
    · obtain ⟨b, off, A3, c3, A4, c4, A5, c5, rfl, hb, r0, r1, r2, r3, r4, r5, r6, r7, g3, g4, g5⟩ := (H.out.below hB (Nat.le_refl _)).s.at_ hk0
      clear g3 g4 g5
      have hV8 := Box.new w4 110 #[.int .i64 (P.st k).kind, .int .i64 (P.st k).var, .int .i64 (P.st k).ex, .slice A3 (P.st k).nc c3, .slice A4 (P.st k).nt c4, .slice A5 (P.st k).ne c5, .int .i64 (P.st k).times, .int .i64 (P.st k).proc]
      obtain ⟨v0, v1, v2, v3, v4, v5, v6, v7, vf⟩ := hV8.eight
      by_cases hkk : Has (P.st k).kind
      · have HK := Lib.hid hkk
        obtain ⟨e0, e1⟩ := has_ex (HST.out k hk0) hkk
        obtain ⟨e, he⟩ : ∃ e : Nat, (P.st k).ex = (e : Int) := ⟨(P.st k).ex.toNat, by omega⟩
        have hex : e < P.nx := by omega
        obtain ⟨xs, hxs⟩ : ∃ xs, xs = ups (vI P.ex e (e + 1)) 5 := ⟨_, rfl⟩
        have hxl : xs.length ≤ 5 := by rw [hxs]; exact ups_le _ _
        have HR : Hid (rdS P (k + 1) = putL (rdS P k) xs) := Lib.hid (by rw [rd_yes hkk, he, Int.toNat_natCast, hxs])
        obtain ⟨bx, offx, rfl, hbb, hcc⟩ := H.out.x.1 (show 0 < P.nx by omega)
        have HBB := Lib.hid hbb
        have HC := Lib.hid hcc
        have HXE := Lib.hid (exsOk_left HX.out hex)
        have wi : IntKind.i64.wrap ((P.st k).ex + 1) = ((e + 1 : Nat) : Int) := by rw [he, IntWalk.i64_in _ (by omega)]; omega
        have hs1 : ((e + 1 : Nat) : Int) ≤ (cx : Int) := by omega
        have hs2 : ((e + 1 : Nat) : Int) ≤ (P.nx : Int) := by omega
        have hs3 : ¬ (cx = 0) := by omega
        clear hbb hcc
        have HE := Lib.hid he
        have HXS := Lib.hid hxs
        clear hkk e0 e1 he hxs
        go_wp2_with (first
          | (go_at_call 84
             refine (implHas_any (P.st k).kind _).mono ?_
             rintro e w5 ⟨r, rfl, hr, hb5⟩
             obtain rfl : r = true := hr.out.2 HK.out
             have hbx5 := (hbx.alloc (.cells #[.int .i64 (P.st k).kind, .int .i64 (P.st k).var, .int .i64 (P.st k).ex, .slice A3 (P.st k).nc c3, .slice A4 (P.st k).nt c4, .slice A5 (P.st k).ne c5, .int .i64 (P.st k).times, .int .i64 (P.st k).proc] 110)).below hb5 (hbx.alloc (.cells #[.int .i64 (P.st k).kind, .int .i64 (P.st k).var, .int .i64 (P.st k).ex, .slice A3 (P.st k).nc c3, .slice A4 (P.st k).nt c4, .slice A5 (P.st k).ne c5, .int .i64 (P.st k).times, .int .i64 (P.st k).proc] 110)).lt
             have hP5 := (hP.alloc (.cells #[.int .i64 (P.st k).kind, .int .i64 (P.st k).var, .int .i64 (P.st k).ex, .slice A3 (P.st k).nc c3, .slice A4 (P.st k).nt c4, .slice A5 (P.st k).ne c5, .int .i64 (P.st k).times, .int .i64 (P.st k).proc] 110)).below hb5 (hP.alloc (.cells #[.int .i64 (P.st k).kind, .int .i64 (P.st k).var, .int .i64 (P.st k).ex, .slice A3 (P.st k).nc c3, .slice A4 (P.st k).nt c4, .slice A5 (P.st k).ne c5, .int .i64 (P.st k).times, .int .i64 (P.st k).proc] 110)).lt
             have hB5 := (hB.alloc hB.size (.cells #[.int .i64 (P.st k).kind, .int .i64 (P.st k).var, .int .i64 (P.st k).ex, .slice A3 (P.st k).nc c3, .slice A4 (P.st k).nt c4, .slice A5 (P.st k).ne c5, .int .i64 (P.st k).times, .int .i64 (P.st k).proc] 110)).trans (hb5.mono (hB.alloc hB.size (.cells #[.int .i64 (P.st k).kind, .int .i64 (P.st k).var, .int .i64 (P.st k).ex, .slice A3 (P.st k).nc c3, .slice A4 (P.st k).nt c4, .slice A5 (P.st k).ne c5, .int .i64 (P.st k).times, .int .i64 (P.st k).proc] 110)).size)
             have hV5 := hV8.below hb5 hV8.lt
             clear hr hb5 v0 v1 v2 v3 v4 v5 v6 v7 vf q0 q1 q2 q3 q4 q5 qf
             obtain ⟨v0, v1, v2, v3, v4, v5, v6, v7, vf⟩ := hV5.eight
             obtain ⟨q0, q1, q2, q3, q4, q5, qf⟩ := hP5.six)
          | (go_at_call 63
             refine (occ_at bx offx cx e P.nv P.ex _ HXE.out hnv (by omega) (Nat.lt_of_lt_of_le HBB.out hB5.size) (fun j hj c hc => (hB5.cell (p := ⟨bx, offx + (j * 4 + c), none⟩) HBB.out).trans (HC.out j (by omega) c hc))).mono ?_
             rintro r6 w6 ⟨A6, c6, rfl, hl6, hb6⟩
             rw [← HXS.out] at hl6 ⊢
             have hGL := hbx5.lt
             have hbx6 := hbx5.below hb6 hbx5.lt
             have hP6 := hP5.below hb6 hP5.lt
             have hB6 := hB5.trans (hb6.mono hB5.size)
             clear hb6 v0 v1 v2 v3 v4 v5 v6 v7 vf q0 q1 q2 q3 q4 q5 qf))
        go_loopg [35] xs.length (fun q iv wr => ∃ (j : Nat) (ms : Array Value), j + q = xs.length ∧ iv = .int .i64 (j : Nat) ∧ Hid (BoolsC ms P.nv (fun i => !(putL (rdS P k) (xs.take j)) i)) ∧ Box wr G 4 ms ∧ Box wr w.heap.size 37 #[.slice Av P.nv cv, .slice (some ⟨bx, offx, none⟩) P.nx cx, .slice (some ⟨b, off, none⟩) P.ns cs, .slice Ap P.np cp, .slice Ab P.nb cb, .int .i64 P.fuel] ∧ Below w.heap.size w wr ∧ IntsAt (G + 1) wr A6 xs.length (fun j => xs.getD j 0))
        case atStart => exact ⟨0, ms, by omega, rfl, Lib.hid (by rw [List.take_zero]; exact hc.out), hbx6, hP6, hB6, IntsAt.low hl6 hGL⟩
        case round =>
          rename World => w7
          obtain ⟨j, ms7, hj, rfl, hc7, hbx7, hP7, hB7, hl7⟩ := hrel
          by_cases hj0 : j < xs.length
          · obtain ⟨b7, off7, rfl, hb7, y7⟩ := hl7.at_ hj0
            obtain ⟨v, hv, hv5, hvt⟩ : ∃ v : Nat, xs.getD j 0 = (v : Int) ∧ v < 5 ∧ vI P.ex e (e + 1) v = true := by rw [HXS.out]; exact ups_get (by rw [← HXS.out]; exact hj0)
            have hvn := vI_lt HX.out hex hvt
            have HS : Hid (putL (rdS P k) (xs.take (j + 1)) = setU (putL (rdS P k) (xs.take j)) v) := Lib.hid (by rw [putL_take _ _ hj0, hv, Int.toNat_natCast])
            rw [hv] at y7
            have k0 := hc7.out.at_ hbx7 hvn
            have f0 := hbx7.free v
            have hvi : (v : Int) < (P.nv : Int) := by omega
            clear hv hvt
            go_wp2_with fail
            go_roundg (gk - 1)
            case rel => exact ⟨j + 1, _, by omega, by go_num, Lib.hid (by rw [HS.out]; exact hc7.out.off hvn), hbx7.set v _, hP7.far (Ne.symm hPG) _ _, hB7.setCell (p := ⟨G, v, none⟩) hGlo _, hl7.keep (Keeps.set _ (Nat.lt_succ_self G) v _)⟩
            case measure => omega
          · obtain rfl : j = xs.length := by omega
            go_wp2_with fail
            go_roundg (P.ns - (k + 1))
            case rel => exact ⟨k + 1, ms7, by omega, by go_num, Lib.hid (by have := hc7.out; rw [List.take_length, ← HR.out] at this; exact this), hbx7, hP7, hB7⟩
            case measure => omega
      · have HK := Lib.hid hkk
        have HR : Hid (rdS P (k + 1) = rdS P k) := Lib.hid (rd_no hkk)
        clear hkk
        go_wp2_with (first
          | (go_at_call 84
             refine (implHas_any (P.st k).kind _).mono ?_
             rintro e w5 ⟨r, rfl, hr, hb5⟩
             obtain rfl : r = false := by cases r with | false => rfl | true => exact absurd (hr.out.1 rfl) HK.out
             have hbx5 := (hbx.alloc (.cells #[.int .i64 (P.st k).kind, .int .i64 (P.st k).var, .int .i64 (P.st k).ex, .slice A3 (P.st k).nc c3, .slice A4 (P.st k).nt c4, .slice A5 (P.st k).ne c5, .int .i64 (P.st k).times, .int .i64 (P.st k).proc] 110)).below hb5 (hbx.alloc (.cells #[.int .i64 (P.st k).kind, .int .i64 (P.st k).var, .int .i64 (P.st k).ex, .slice A3 (P.st k).nc c3, .slice A4 (P.st k).nt c4, .slice A5 (P.st k).ne c5, .int .i64 (P.st k).times, .int .i64 (P.st k).proc] 110)).lt
             have hP5 := (hP.alloc (.cells #[.int .i64 (P.st k).kind, .int .i64 (P.st k).var, .int .i64 (P.st k).ex, .slice A3 (P.st k).nc c3, .slice A4 (P.st k).nt c4, .slice A5 (P.st k).ne c5, .int .i64 (P.st k).times, .int .i64 (P.st k).proc] 110)).below hb5 (hP.alloc (.cells #[.int .i64 (P.st k).kind, .int .i64 (P.st k).var, .int .i64 (P.st k).ex, .slice A3 (P.st k).nc c3, .slice A4 (P.st k).nt c4, .slice A5 (P.st k).ne c5, .int .i64 (P.st k).times, .int .i64 (P.st k).proc] 110)).lt
             have hB5 := (hB.alloc hB.size (.cells #[.int .i64 (P.st k).kind, .int .i64 (P.st k).var, .int .i64 (P.st k).ex, .slice A3 (P.st k).nc c3, .slice A4 (P.st k).nt c4, .slice A5 (P.st k).ne c5, .int .i64 (P.st k).times, .int .i64 (P.st k).proc] 110)).trans (hb5.mono (hB.alloc hB.size (.cells #[.int .i64 (P.st k).kind, .int .i64 (P.st k).var, .int .i64 (P.st k).ex, .slice A3 (P.st k).nc c3, .slice A4 (P.st k).nt c4, .slice A5 (P.st k).ne c5, .int .i64 (P.st k).times, .int .i64 (P.st k).proc] 110)).size)
             have hV5 := hV8.below hb5 hV8.lt
             clear hr hb5 v0 v1 v2 v3 v4 v5 v6 v7 vf q0 q1 q2 q3 q4 q5 qf
             obtain ⟨v0, v1, v2, v3, v4, v5, v6, v7, vf⟩ := hV5.eight
             obtain ⟨q0, q1, q2, q3, q4, q5, qf⟩ := hP5.six))
        go_roundg (gk - 1)
        case rel => exact ⟨k + 1, ms, by omega, by go_num, Lib.hid (by rw [HR.out]; exact hc.out), hbx5, hP5, hB5⟩
        case measure => omega
    · obtain rfl : k = P.ns := by omega
      have hbools : BoolsAt w4 (some ⟨G, 0, none⟩) P.nv (fun j => !rdS P P.ns j) := fun j hj => ⟨_, 0, rfl, hbx.lt, by rw [Nat.zero_add]; exact hc.out.at_ hbx hj⟩
      go_wp2_with (go_at_call 72; refine (setBits_any _ P.nv P.nv _ _ (by omega) hbools).mono ?_; rintro e w6 ⟨A6, c6, rfl, hl6, hb6⟩)
      go_ret2
      exact ⟨A6, c6, rfl, hl6.low hB.size, hB.trans (hb6.mono hB.size)⟩

theorem implUr_any (lo : Nat) (P : Prg) (Av Ax As Ap Ab : Option Addr) (cv cx cs cp cb : Nat) (w : World) (hs : P.small) (hcx : P.nx ≤ cx) (h : PgAt lo w Av Ax As Ap Ab P) :
    Calls Try.prog 33 #[.agg #[.slice Av P.nv cv, .slice Ax P.nx cx, .slice As P.ns cs, .slice Ap P.np cp, .slice Ab P.nb cb, .int .i64 P.fuel]] w fun e w' => ∃ A c, e = .returned (.tuple #[.slice A (urN P) c, .bool (urB P)]) ∧ IntsAt w.heap.size w' A (urN P) (urF P) ∧ Below w.heap.size w w' := by
  by_cases F0 : PgOk P
  · have hy := ur_yes F0
    refine (implUr_any2 lo P Av Ax As Ap Ab cv cx cs cp cb w hs hcx h F0).mono ?_
    rintro e w' ⟨A, c, he, hl, hb⟩
    exact ⟨A, c, by rw [urN, hy.1, hy.2]; exact he, by unfold urN urF; rw [hy.1]; exact hl, hb⟩
  · have hy := ur_no F0
    refine (implUr_any1 lo P Av Ax As Ap Ab cv cx cs cp cb w hs hcx h F0).mono ?_
    rintro e w' ⟨A, c, he, hl, hb⟩
    exact ⟨A, c, by rw [urN, hy.1, hy.2]; exact he, by unfold urN urF; rw [hy.1]; exact hl, hb⟩

end Go.Proofs.Ytcdgbjklfmlhkaa
