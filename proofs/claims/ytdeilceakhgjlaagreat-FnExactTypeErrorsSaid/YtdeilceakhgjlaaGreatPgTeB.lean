/-
  Several texts in one: PgTe5, PgTe6.
-/
import Derived.Test.YtdeilceakhgjlaaGreatPgTeA
/-
  TypeErrors: the model's walk. (Written by gen_pgte.py.)
-/
namespace Go.Proofs.YtdeilceakhgjlaaGreat
open Go.RowKit Num

set_option maxRecDepth 100000 in
set_option maxHeartbeats 6400000 in
theorem specTe_any1 (lo : Nat) (P : Prg) (Av Ax As Ap Ab : Option Addr) (cv cx cs cp cb : Nat) (w : World) (hs : P.small) (hcv : P.nv ≤ cv) (hcp : P.np ≤ cp) (h : PgAt lo w Av Ax As Ap Ab P) (F0 : ¬ PgOk P) :
    Calls Tryz.prog 14 #[.agg #[.slice Av P.nv cv, .slice Ax P.nx cx, .slice As P.ns cs, .slice Ap P.np cp, .slice Ab P.nb cb, .int .i64 P.fuel]] w fun e w' => e = .returned (.tuple #[.slice none 0 0, .bool false]) ∧ Below w.heap.size w w' := by
  have hP := Box.new w 38 #[.slice Av P.nv cv, .slice Ax P.nx cx, .slice As P.ns cs, .slice Ap P.np cp, .slice Ab P.nb cb, .int .i64 P.fuel]
  have hB := (Below.refl w.heap.size w).alloc (Nat.le_refl _) (.cells #[.slice Av P.nv cv, .slice Ax P.nx cx, .slice As P.ns cs, .slice Ap P.np cp, .slice Ab P.nb cb, .int .i64 P.fuel] 38)
  obtain ⟨q0, q1, q2, q3, q4, q5, qf⟩ := hP.six
  have H := Lib.hid h
  have HSM := Lib.hid hs
  have F := Lib.hid F0
  clear F0 h hs
  go_enter Tryz.func14, Tryz.ntmps14
  go_wp2_with (first
      | (go_at_call 50
         refine (specVal_any lo P Av Ax As Ap Ab cv cx cs cp cb _ HSM.out hcv hcp (H.out.below hB (Nat.le_refl _))).mono ?_
         rintro e w1 ⟨r, rfl, hr, hb⟩
         obtain rfl : r = false := by cases r with | false => rfl | true => exact absurd (hr.out.1 rfl) F.out
         clear q0 q1 q2 q3 q4 q5 qf hr
         replace hP := hP.below hb hP.lt
         replace hB := hB.trans (hb.mono hB.size)
         clear hb
         obtain ⟨q0, q1, q2, q3, q4, q5, qf⟩ := hP.six))
  go_ret2
  exact ⟨rfl, hB⟩

set_option maxRecDepth 100000 in
set_option maxHeartbeats 6400000 in
theorem specTe_any2 (lo : Nat) (P : Prg) (Av Ax As Ap Ab : Option Addr) (cv cx cs cp cb : Nat) (w : World) (hs : P.small) (hcv : P.nv ≤ cv) (hcp : P.np ≤ cp) (h : PgAt lo w Av Ax As Ap Ab P) (F0 : PgOk P) :
    Calls Tryz.prog 14 #[.agg #[.slice Av P.nv cv, .slice Ax P.nx cx, .slice As P.ns cs, .slice Ap P.np cp, .slice Ab P.nb cb, .int .i64 P.fuel]] w fun e w' => ∃ A c n, e = .returned (.tuple #[.slice A n c, .bool true]) ∧ n * 3 = (teS P P.ns).length ∧ LsAt w.heap.size w' A (teS P P.ns) ∧ Below w.heap.size w w' := by
  have hP := Box.new w 38 #[.slice Av P.nv cv, .slice Ax P.nx cx, .slice As P.ns cs, .slice Ap P.np cp, .slice Ab P.nb cb, .int .i64 P.fuel]
  have hB := (Below.refl w.heap.size w).alloc (Nat.le_refl _) (.cells #[.slice Av P.nv cv, .slice Ax P.nx cx, .slice As P.ns cs, .slice Ap P.np cp, .slice Ab P.nb cb, .int .i64 P.fuel] 38)
  obtain ⟨q0, q1, q2, q3, q4, q5, qf⟩ := hP.six
  have H := Lib.hid h
  have HSM := Lib.hid hs
  have F := Lib.hid F0
  have hnv : P.nv ≤ 5 := F0.1.2.2
  have hnx := F0.2.1.1
  have hns := F0.2.2.2.1
  have HX := Lib.hid F0.2.1.2
  have HST := Lib.hid F0.2.2.2.2.2.1
  have HVZ := Lib.hid (vals_21 F0)
  have hmk := mk_bool P.nv (by omega)
  clear F0 h hs
  go_enter Tryz.func14, Tryz.ntmps14
  go_wp2_with (first
      | (go_at_call 50
         refine (specVal_any lo P Av Ax As Ap Ab cv cx cs cp cb _ HSM.out hcv hcp (H.out.below hB (Nat.le_refl _))).mono ?_
         rintro e w1 ⟨r, rfl, hr, hb⟩
         obtain rfl : r = true := hr.out.2 F.out
         clear q0 q1 q2 q3 q4 q5 qf hr
         replace hP := hP.below hb hP.lt
         replace hB := hB.trans (hb.mono hB.size)
         clear hb
         obtain ⟨q0, q1, q2, q3, q4, q5, qf⟩ := hP.six
         have p2 := (hP.alloc (.cells (madeCells #[.bool false] P.nv) 4)).cell 2))
  rename World => w1
  have hX := Box.new w1 4 (madeCells #[.bool false] P.nv)
  have hB2 := hB.alloc hB.size (.cells (madeCells #[.bool false] P.nv) 4)
  have hP2 := hP.alloc (.cells (madeCells #[.bool false] P.nv) 4)
  obtain ⟨G, hG⟩ : ∃ G, G = w1.heap.size := ⟨_, rfl⟩
  have hPG : w.heap.size ≠ G := by rw [hG]; exact Nat.ne_of_lt hP.lt
  have hGlo : w.heap.size ≤ G := by rw [hG]; exact hB.size
  rw [← hG] at hX ⊢
  obtain ⟨w2, hw2⟩ : ∃ w2, w2 = w1.alloc (.cells (madeCells #[.bool false] P.nv) 4) := ⟨_, rfl⟩
  rw [← hw2] at hX hB2 hP2 ⊢
  clear hP hB hw2 hG hmk q0 q1 q2 q3 q4 q5 qf p2
  go_loopg [23] P.ns (fun q iv wr => ∃ (k : Nat) (ms : Array Value), k + q = P.ns ∧ iv = .int .i64 (k : Nat) ∧ Hid (BoolsC ms P.nv (asS P k)) ∧ Box wr G 4 ms ∧ Box wr w.heap.size 38 #[.slice Av P.nv cv, .slice Ax P.nx cx, .slice As P.ns cs, .slice Ap P.np cp, .slice Ab P.nb cb, .int .i64 P.fuel] ∧ Below w.heap.size w wr)
  case atStart => exact ⟨0, _, by omega, rfl, Lib.hid (BoolsC.falses P.nv), hX, hP2, hB2⟩
  case round =>
    rename World => w4
    obtain ⟨k, ms, hk, rfl, hc, hbx, hP, hB⟩ := hrel
    obtain ⟨q0, q1, q2, q3, q4, q5, qf⟩ := hP.six
    by_cases hk0 : k < P.ns
    · obtain ⟨b, off, A3, c3, A4, c4, A5, c5, rfl, hb, r0, r1, r2, r3, r4, r5, r6, r7, g3, g4, g5⟩ := (H.out.below hB (Nat.le_refl _)).s.at_ hk0
      clear g3 g4 g5
      have hV8 := Box.new w4 67 #[.int .i64 (P.st k).kind, .int .i64 (P.st k).var, .int .i64 (P.st k).ex, .slice A3 (P.st k).nc c3, .slice A4 (P.st k).nt c4, .slice A5 (P.st k).ne c5, .int .i64 (P.st k).times, .int .i64 (P.st k).proc]
      obtain ⟨v0, v1, v2, v3, v4, v5, v6, v7, vf⟩ := hV8.eight
      have hbx5 := hbx.alloc (.cells #[.int .i64 (P.st k).kind, .int .i64 (P.st k).var, .int .i64 (P.st k).ex, .slice A3 (P.st k).nc c3, .slice A4 (P.st k).nt c4, .slice A5 (P.st k).ne c5, .int .i64 (P.st k).times, .int .i64 (P.st k).proc] 67)
      have hP5 := hP.alloc (.cells #[.int .i64 (P.st k).kind, .int .i64 (P.st k).var, .int .i64 (P.st k).ex, .slice A3 (P.st k).nc c3, .slice A4 (P.st k).nt c4, .slice A5 (P.st k).ne c5, .int .i64 (P.st k).times, .int .i64 (P.st k).proc] 67)
      have hB5 := hB.alloc hB.size (.cells #[.int .i64 (P.st k).kind, .int .i64 (P.st k).var, .int .i64 (P.st k).ex, .slice A3 (P.st k).nc c3, .slice A4 (P.st k).nt c4, .slice A5 (P.st k).ne c5, .int .i64 (P.st k).times, .int .i64 (P.st k).proc] 67)
      by_cases h2 : (P.st k).kind = 2
      · have d2 : ((P.st k).kind == 2) = true := by rw [h2]; rfl
        have ha := as_var (HST.out k hk0) (.inl h2)
        obtain ⟨v, hv⟩ : ∃ v : Nat, (P.st k).var = (v : Int) := ⟨(P.st k).var.toNat, by omega⟩
        have hvn : v < P.nv := by omega
        have hvi : (v : Int) < (P.nv : Int) := by omega
        have HS : Hid (asS P (k + 1) = setU (asS P k) v) := Lib.hid (by rw [as_yes (.inl h2), hv, Int.toNat_natCast])
        replace v1 := v1.trans (congrArg (fun z => some (Value.int .i64 z)) hv)
        have k0 := hc.out.at_ hbx5 hvn
        have f0 := hbx5.free v
        clear hv ha
        clear h2
        go_wp2_with fail
        go_roundg (gk - 1)
        case rel => exact ⟨k + 1, _, by omega, by go_num, Lib.hid (by rw [HS.out]; exact hc.out.put hvn), hbx5.set v _, hP5.far (Ne.symm hPG) _ _, hB5.setCell (p := ⟨G, v, none⟩) hGlo _⟩
        case measure => omega
      · have d2 : ((P.st k).kind == 2) = false := beq_false_of_ne h2
        by_cases h3 : (P.st k).kind = 3
        · have d3 : ((P.st k).kind == 3) = true := by rw [h3]; rfl
          have ha := as_var (HST.out k hk0) (.inr h3)
          obtain ⟨v, hv⟩ : ∃ v : Nat, (P.st k).var = (v : Int) := ⟨(P.st k).var.toNat, by omega⟩
          have hvn : v < P.nv := by omega
          have hvi : (v : Int) < (P.nv : Int) := by omega
          have HS : Hid (asS P (k + 1) = setU (asS P k) v) := Lib.hid (by rw [as_yes (.inr h3), hv, Int.toNat_natCast])
          replace v1 := v1.trans (congrArg (fun z => some (Value.int .i64 z)) hv)
          have k0 := hc.out.at_ hbx5 hvn
          have f0 := hbx5.free v
          clear hv ha
          clear h2 h3
          go_wp2_with fail
          go_roundg (gk - 1)
          case rel => exact ⟨k + 1, _, by omega, by go_num, Lib.hid (by rw [HS.out]; exact hc.out.put hvn), hbx5.set v _, hP5.far (Ne.symm hPG) _ _, hB5.setCell (p := ⟨G, v, none⟩) hGlo _⟩
          case measure => omega
        · have d3 : ((P.st k).kind == 3) = false := beq_false_of_ne h3
          have HS : Hid (asS P (k + 1) = asS P k) := Lib.hid (as_no fun h => h.elim h2 h3)
          clear h2 h3
          go_wp2_with fail
          go_roundg (gk - 1)
          case rel => exact ⟨k + 1, _, by omega, by go_num, Lib.hid (by rw [HS.out]; exact hc.out), hbx5, hP5, hB5⟩
          case measure => omega
    · obtain rfl : k = P.ns := by omega
      rename World => W0
      have hP3 := hP
      have hB3 := hB
      have hb2 := hbx
      have HM := hc
      have h00 : teS P 0 = [] := by rw [teS]
      clear hP hB hbx hc hPG hGlo hk0
      obtain ⟨q0, q1, q2, q3, q4, q5, qf⟩ := hP3.six
      obtain ⟨i0, ji, jz0, jz1, jz2⟩ := info_three Tryz.infoTE
      go_wp2_with fail
      clear q0 q1 q2 q3 q4 q5 qf
      go_loopg [7, 43] P.ns (fun q lv iv wr => ∃ (k m : Nat), k + q = P.ns ∧ iv = .int .i64 (k : Nat) ∧ Hid ((teS P k).length = m * 3) ∧ wr.ownsRow W0.heap.size 75 3 lv m (cellsL (teS P k)) ∧ Below W0.heap.size W0 wr)
      case atStart => exact ⟨0, 0, by omega, rfl, Lib.hid (by rw [h00]; rfl), by rw [h00]; exact ⟨rfl, .inl ⟨rfl, rfl⟩⟩, Below.refl _ _⟩
      case round =>
       rename World => w4
       obtain ⟨k, m, hk, rfl, hm, hown, hbel⟩ := hrel
       have hmk : m ≤ 2 * k := by
         obtain ⟨n, h1, h2⟩ := te_len P k
         have := hm.out
         omega
       have hP := hP3.below hbel hP3.lt
       have hB := hB3.trans (hbel.mono hB3.size)
       obtain ⟨q0, q1, q2, q3, q4, q5, qf⟩ := hP.six
       by_cases hk0 : k < P.ns
       · obtain ⟨b, off, A3, c3, A4, c4, A5, c5, rfl, hb, r0, r1, r2, r3, r4, r5, r6, r7, g3, g4, g5⟩ := (H.out.below hB (Nat.le_refl _)).s.at_ hk0
         clear g3 g4 g5
         by_cases hkk : Has (P.st k).kind
         · have HK := Lib.hid hkk
           obtain ⟨e0, e1⟩ := has_ex (HST.out k hk0) hkk
           obtain ⟨e, he⟩ : ∃ e : Nat, (P.st k).ex = (e : Int) := ⟨(P.st k).ex.toNat, by omega⟩
           have hex : e < P.nx := by omega
           obtain ⟨xs, hxs⟩ : ∃ xs, xs = ups (vI P.ex e (e + 1)) 5 := ⟨_, rfl⟩
           have HXS := Lib.hid hxs
           have hxl : xs.length ≤ 5 := by rw [hxs]; exact ups_le _ _
           have HVL : Hid (∀ j, j < xs.length → ∃ v : Nat, xs.getD j 0 = (v : Int) ∧ v < P.nv) := Lib.hid fun j hj => by
             obtain ⟨v, h1, _, h3⟩ := ups_get (u := vI P.ex e (e + 1)) (K := 5) (j := j) (by rw [← HXS.out]; exact hj)
             exact ⟨v, by rw [HXS.out]; exact h1, vI_lt HX.out hex h3⟩
           obtain ⟨x, hx⟩ : ∃ x, x = (ivE P e).1 := ⟨_, rfl⟩
           obtain ⟨y, hy⟩ : ∃ y, y = (ivE P e).2 := ⟨_, rfl⟩
           obtain ⟨c, hc⟩ : ∃ c, c = teC P (P.st k) (ivE P e) := ⟨_, rfl⟩
           have CG : Hid (∀ W, Below w.heap.size w W → Calls Tryz.prog 52 #[.agg #[.slice Av P.nv cv, .slice Ax P.nx cx, .slice (some ⟨b, off, none⟩) P.ns cs, .slice Ap P.np cp, .slice Ab P.nb cb, .int .i64 P.fuel], .int .i64 (e : Nat)] W fun r w' => r = .returned (.agg #[.int .i64 x, .int .i64 y]) ∧ Below W.heap.size W w') := Lib.hid fun W hw => by
             have := range5_any lo P Av Ax (some ⟨b, off, none⟩) Ap Ab cv cx cs cp cb e W HX.out hnx hnv hex HVZ.out (H.out.below hw (Nat.le_refl _)).x (H.out.below hw (Nat.le_refl _)).v
             rw [hx, hy]
             exact this
           have CV : Hid (∀ W, Below w.heap.size w W → Calls Tryz.prog 55 #[.agg #[.slice Av P.nv cv, .slice Ax P.nx cx, .slice (some ⟨b, off, none⟩) P.ns cs, .slice Ap P.np cp, .slice Ab P.nb cb, .int .i64 P.fuel], .int .i64 (e : Nat)] W fun r w' => ∃ A c, r = .returned (.slice A xs.length c) ∧ LsAt W.heap.size w' A xs ∧ Below W.heap.size W w') := Lib.hid fun W hw => by
             rw [HXS.out]
             exact varsOf_any lo P Av Ax (some ⟨b, off, none⟩) Ap Ab cv cx cs cp cb e W HX.out hnx hnv hex (H.out.below hw (Nat.le_refl _)).x
           rw [he] at r2
           by_cases h2 : (P.st k).kind = 2
           · have d2 : ((P.st k).kind == 2) = true := by rw [h2]; rfl
             have d2n : ((P.st k).kind != 2) = false := by rw [h2]; rfl
             have ha := as_var (HST.out k hk0) (.inl h2)
             obtain ⟨v, hv⟩ : ∃ v : Nat, (P.st k).var = (v : Int) := ⟨(P.st k).var.toNat, by omega⟩
             have hvi : (v : Int) < (P.nv : Int) := by omega
             have hvn : v < P.nv := by omega
             have CH : Hid (∀ W, Calls Tryz.prog 51 #[.agg #[.int .i64 (P.st k).kind, .int .i64 (v : Nat), .int .i64 (e : Nat), .slice A3 (P.st k).nc c3, .slice A4 (P.st k).nt c4, .slice A5 (P.st k).ne c5, .int .i64 (P.st k).times, .int .i64 (P.st k).proc]] W (Yn (Has (P.st k).kind) W)) := Lib.hid fun W => by
                have := specHas_any (P.st k) A3 A4 A5 c3 c4 c5 W
                rw [he, hv] at this
                exact this
             obtain ⟨bv, offv, rfl, hbv0, _, _⟩ := (H.out.below hB (Nat.le_refl _)).v.at_ hvn
             have CW : Hid (∀ W, Below w.heap.size w W → W.cell? ⟨bv, offv + v * 2 + 1, none⟩ = some (.int .i64 (P.vz v))) := Lib.hid fun W hw => by
               obtain ⟨b', off', z1, _, _, z2⟩ := (H.out.below hw (Nat.le_refl _)).v.at_ hvn
               injection z1 with z1
               injection z1 with z1 z3 _
               subst z1 z3
               exact z2
             rw [hv] at r1
             clear ha hbv0
             cases hd0 : decide (P.vz v ≤ (ivE P e).2) with
             | true =>
               have HT0 : Hid (teS P (k + 1) = (teS P k ++ [1, (k : Int), (v : Int)]) ++ teB k (fu (asS P P.ns) xs)) := Lib.hid (by
                 rw [te_yes hkk, teX, he, Int.toNat_natCast, ← hxs, ← hc]
                 rw [show c = 1 by rw [hc, teC, if_pos h2, hv, Int.toNat_natCast]; simp only [hd0]; rfl, hv]; rfl)
               have HTn : Hid (fu (asS P P.ns) xs = none → teS P (k + 1) = (teS P k ++ [1, (k : Int), (v : Int)])) := Lib.hid fun h => by rw [HT0.out, h]; exact List.append_nil _
               have HTs : Hid (∀ z, fu (asS P P.ns) xs = some z → teS P (k + 1) = (teS P k ++ [1, (k : Int), (v : Int)]) ++ [3, (k : Int), z]) := Lib.hid fun z h => by rw [HT0.out, h]; rfl
               have hV4 := Box.new w4 67 #[.int .i64 (P.st k).kind, .int .i64 (v : Nat), .int .i64 (e : Nat), .slice A3 (P.st k).nc c3, .slice A4 (P.st k).nt c4, .slice A5 (P.st k).ne c5, .int .i64 (P.st k).times, .int .i64 (P.st k).proc]
               obtain ⟨v0, v1, v2, v3, v4, v5, v6, v7, vf⟩ := hV4.eight
               have hne : some w4.heap.size ≠ Value.ownBlock _ := fun z => Nat.lt_irrefl _ (hown.lt _ z.symm).2
               rw [← hy] at hd0
               clear HT0 hkk e0 e1 he hxs hx hy hc hP h2 hv
               go_upto_region 16 with (first
                | (go_at_call 51
                   refine (CH.out _).mono ?_
                   rintro e5 w5 ⟨r, rfl, hr, hb5⟩
                   obtain rfl : r = true := hr.out.2 HK.out
                   have hbel5 := (hbel.alloc hbel.size (.cells #[.int .i64 (P.st k).kind, .int .i64 (v : Nat), .int .i64 (e : Nat), .slice A3 (P.st k).nc c3, .slice A4 (P.st k).nt c4, .slice A5 (P.st k).ne c5, .int .i64 (P.st k).times, .int .i64 (P.st k).proc] 67)).trans (hb5.mono (hbel.alloc hbel.size (.cells #[.int .i64 (P.st k).kind, .int .i64 (v : Nat), .int .i64 (e : Nat), .slice A3 (P.st k).nc c3, .slice A4 (P.st k).nt c4, .slice A5 (P.st k).ne c5, .int .i64 (P.st k).times, .int .i64 (P.st k).proc] 67)).size)
                   have hV5 := hV4.below hb5 hV4.lt
                   have hown5 := own_stay (hown.alloc (.cells #[.int .i64 (P.st k).kind, .int .i64 (v : Nat), .int .i64 (e : Nat), .slice A3 (P.st k).nc c3, .slice A4 (P.st k).nt c4, .slice A5 (P.st k).ne c5, .int .i64 (P.st k).times, .int .i64 (P.st k).proc] 67)) hb5 (Nat.le_refl _)
                   clear hr hb5 v0 v1 v2 v3 v4 v5 v6 v7 vf q0 q1 q2 q3 q4 q5 qf
                   have hP5 := hP3.below hbel5 hP3.lt
                   obtain ⟨v0, v1, v2, v3, v4, v5, v6, v7, vf⟩ := hV5.eight
                   obtain ⟨q0, q1, q2, q3, q4, q5, qf⟩ := hP5.six)
                | (go_at_call 52
                   refine (CG.out _ (hB3.trans (hbel5.mono hB3.size))).mono ?_
                   rintro e6 w6 ⟨rfl, hb6⟩
                   have hbel6 := hbel5.trans (hb6.mono hbel5.size)
                   have hV6 := (hV5.below hb6 hV5.lt).alloc (.cells #[.int .i64 x, .int .i64 y] 70)
                   have hown6 := (own_stay hown5 hb6 (Nat.le_refl _)).alloc (.cells #[.int .i64 x, .int .i64 y] 70)
                   have hI6 := Box.new w6 70 #[.int .i64 x, .int .i64 y]
                   have hbel7 := hbel6.alloc hbel6.size (.cells #[.int .i64 x, .int .i64 y] 70)
                   clear hb6 v0 v1 v2 v3 v4 v5 v6 v7 vf q0 q1 q2 q3 q4 q5 qf hP5 hV5
                   have hP7 := hP3.below hbel7 hP3.lt
                   obtain ⟨i0', i1', if'⟩ := hI6.duo
                   obtain ⟨v0, v1, v2, v3, v4, v5, v6, v7, vf⟩ := hV6.eight
                   obtain ⟨q0, q1, q2, q3, q4, q5, qf⟩ := hP7.six))
               obtain ⟨w7, hw7⟩ : ∃ w7, w7 = w6.alloc (.cells #[.int .i64 x, .int .i64 y] 70) := ⟨_, rfl⟩
               rw [← hw7] at hV6 hown6 hI6 hbel7 hP7 i0' i1' if' v0 v1 v2 v3 v4 v5 v6 v7 vf q0 q1 q2 q3 q4 q5 qf ⊢
               clear hw7
               have u1 := CW.out w7 (hB3.trans (hbel7.mono hB3.size))
               have hD : ∀ n, Below w7.heap.size w7 (w7.drewN n) := fun n => below_drewN n (Below.refl _ _)
               go_quiet (fail)
               generalize hw8 : w7.drewN _ = w8
               have hb8 : Below w7.heap.size w7 w8 := hw8 ▸ hD _
               clear hD hw8
               have hV8b := hV6.below hb8 hV6.lt
               have hI8 := hI6.below hb8 hI6.lt
               have hown8 := own_stay hown6 hb8 (Nat.le_refl _)
               have hbel8 := hbel7.trans (hb8.mono hbel7.size)
               have hP8 := hP3.below hbel8 hP3.lt
               have hsz8 := hbel8.size
               clear v0 v1 v2 v3 v4 v5 v6 v7 vf q0 q1 q2 q3 q4 q5 qf i0' i1' if' hb8 u1 CW hd0
               obtain ⟨i0', i1', if'⟩ := hI8.duo
               obtain ⟨v0, v1, v2, v3, v4, v5, v6, v7, vf⟩ := hV8b.eight
               obtain ⟨q0, q1, q2, q3, q4, q5, qf⟩ := hP8.six
               go_wp2_with (first
                | (at_builtin; refine wpList_append_own _ rfl _ _ 30 rfl W0.heap.size 75 i0 (.agg #[.int .i64 0, .int .i64 0, .int .i64 0]) 3 24 Tryz.underlying30 ji jz0 jz1 jz2 rfl (by decide) _ m _ rfl (hown8.alloc _) ⟨w8.heap.size, 0, none⟩ 1 1 [.int .i64 1, .int .i64 (k : Nat), .int .i64 (v : Int)] rfl rfl (cell3_new _ _ _ _ _) (one3_int _ _ _) (by unfold maxLen; omega) (by omega) (by simp; omega) ?_; intro lv9 w9 hown9 hgrow9 _
                   have hV9 := (hV8b.alloc (.cells #[.int .i64 1, .int .i64 (k : Nat), .int .i64 (v : Int)] 75)).growT hgrow9 hne
                   have hbel9 := (hbel8.alloc hbel8.size (.cells #[.int .i64 1, .int .i64 (k : Nat), .int .i64 (v : Int)] 75)).grown hgrow9 (by simp; omega) (fun r hr => (hown8.lt r hr).1)
                   have hP9 := hP3.below hbel9 hP3.lt
                   have hsz9 := hbel9.size
                   clear v0 v1 v2 v3 v4 v5 v6 v7 vf q0 q1 q2 q3 q4 q5 qf
                   obtain ⟨v0, v1, v2, v3, v4, v5, v6, v7, vf⟩ := hV9.eight
                   obtain ⟨q0, q1, q2, q3, q4, q5, qf⟩ := hP9.six)
                | (go_at_call 55
                   refine (CV.out _ (hB3.trans (hbel9.mono hB3.size))).mono ?_
                   rintro r6 wv ⟨A6, c6, rfl, hl6, hbv⟩
                   have hbelv := hbel9.trans (hbv.mono hbel9.size)
                   have hownv := own_stay hown9 hbv (Nat.le_refl _)
                   have hXv := hb2.below hbelv hb2.lt
                   have hszv := hbelv.size
                   clear v0 v1 v2 v3 v4 v5 v6 v7 vf q0 q1 q2 q3 q4 q5 qf))
               go_loopg [7, 98] xs.length (fun q ov iv wr => ∃ j : Nat, j + q = xs.length ∧ iv = .int .i64 (j : Nat) ∧ Hid (fu (asS P P.ns) xs = fu (asS P P.ns) (xs.drop j)) ∧ wv.ownsRow W0.heap.size 75 3 ov (m + 1) (cellsL (teS P k) ++ cellsL [1, (k : Int), (v : Int)]) ∧ wv = wr)
               case atStart => exact ⟨0, by omega, rfl, Lib.hid rfl, hownv, rfl⟩
               case round =>
                 clear hownv
                 obtain ⟨j, hj, rfl, hfu, hownv, rfl⟩ := hrel
                 by_cases hj0 : j < xs.length
                 · obtain ⟨b7, off7, rfl, hb7, y7⟩ := hl6.at_ hj0
                   obtain ⟨z, hz, hzn⟩ := HVL.out j hj0
                   have kz := HM.out.at_ hXv hzn
                   have hzi : (z : Int) < (P.nv : Int) := by omega
                   cases ha : asS P P.ns z with
                   | true =>
                     have HF : Hid (fu (asS P P.ns) xs = fu (asS P P.ns) (xs.drop (j + 1))) := Lib.hid (hfu.out.trans (fu_step hj0 (by rw [hz, Int.toNat_natCast]; exact ha)))
                     rw [hz] at y7
                     rw [ha] at kz
                     clear ha hz hfu
                     go_wp2_with fail
                     go_roundg (gk - 1)
                     case rel => exact ⟨j + 1, by omega, by go_num, HF, hownv, rfl⟩
                     case measure => omega
                   | false =>
                     have HF : Hid (teS P (k + 1) = (teS P k ++ [1, (k : Int), (v : Int)]) ++ [3, (k : Int), (z : Int)]) := Lib.hid (HTs.out _ (by rw [hfu.out, fu_hit hj0 (by rw [hz, Int.toNat_natCast]; exact ha), hz]))
                     rw [hz] at y7
                     rw [ha] at kz
                     clear ha hz hfu
                     go_wp2_with (at_builtin; refine wpList_append_own _ rfl _ _ 30 rfl W0.heap.size 75 i0 (.agg #[.int .i64 0, .int .i64 0, .int .i64 0]) 3 24 Tryz.underlying30 ji jz0 jz1 jz2 rfl (by decide) _ (m + 1) _ rfl (hownv.alloc _) ⟨wv.heap.size, 0, none⟩ 1 1 [.int .i64 3, .int .i64 (k : Nat), .int .i64 (z : Nat)] rfl rfl (cell3_new _ _ _ _ _) (one3_int _ _ _) (by unfold maxLen; omega) (by omega) (by simp; omega) ?_; intro lvb wb hownb hgrowb _)
                     go_roundg (P.ns - (k + 1))
                     case rel => exact ⟨k + 1, m + 2, by omega, by go_num, Lib.hid (by rw [HF.out]; have := hm.out; simp; omega), by rw [HF.out, cellsL_app, cellsL_app]; exact hownb, (hbelv.alloc hbelv.size (.cells #[.int .i64 3, .int .i64 (k : Nat), .int .i64 (z : Nat)] 75)).grown hgrowb (by simp; omega) (fun r hr => (hownv.lt r hr).1)⟩
                     case measure => omega
                 · obtain rfl : j = xs.length := by omega
                   have HF : Hid (teS P (k + 1) = (teS P k ++ [1, (k : Int), (v : Int)])) := Lib.hid (HTn.out (by rw [hfu.out, fu_end]))
                   clear hfu
                   go_wp2_with fail
                   go_roundg (P.ns - (k + 1))
                   case rel => exact ⟨k + 1, m + 1, by omega, by go_num, Lib.hid (by rw [HF.out]; have := hm.out; simp; omega), by rw [HF.out, cellsL_app]; exact hownv, hbelv⟩
                   case measure => omega
             | false =>
               have HT0 : Hid (teS P (k + 1) = teS P k ++ teB k (fu (asS P P.ns) xs)) := Lib.hid (by
                 rw [te_yes hkk, teX, he, Int.toNat_natCast, ← hxs, ← hc]
                 rw [show c = 0 by rw [hc, teC, if_pos h2, hv, Int.toNat_natCast]; simp only [hd0]; rfl]; simp [teA])
               have HTn : Hid (fu (asS P P.ns) xs = none → teS P (k + 1) = teS P k) := Lib.hid fun h => by rw [HT0.out, h]; exact List.append_nil _
               have HTs : Hid (∀ z, fu (asS P P.ns) xs = some z → teS P (k + 1) = teS P k ++ [3, (k : Int), z]) := Lib.hid fun z h => by rw [HT0.out, h]; rfl
               have hV4 := Box.new w4 67 #[.int .i64 (P.st k).kind, .int .i64 (v : Nat), .int .i64 (e : Nat), .slice A3 (P.st k).nc c3, .slice A4 (P.st k).nt c4, .slice A5 (P.st k).ne c5, .int .i64 (P.st k).times, .int .i64 (P.st k).proc]
               obtain ⟨v0, v1, v2, v3, v4, v5, v6, v7, vf⟩ := hV4.eight
               have hne : some w4.heap.size ≠ Value.ownBlock _ := fun z => Nat.lt_irrefl _ (hown.lt _ z.symm).2
               rw [← hy] at hd0
               clear HT0 hkk e0 e1 he hxs hx hy hc hP h2 hv
               go_upto_region 16 with (first
                | (go_at_call 51
                   refine (CH.out _).mono ?_
                   rintro e5 w5 ⟨r, rfl, hr, hb5⟩
                   obtain rfl : r = true := hr.out.2 HK.out
                   have hbel5 := (hbel.alloc hbel.size (.cells #[.int .i64 (P.st k).kind, .int .i64 (v : Nat), .int .i64 (e : Nat), .slice A3 (P.st k).nc c3, .slice A4 (P.st k).nt c4, .slice A5 (P.st k).ne c5, .int .i64 (P.st k).times, .int .i64 (P.st k).proc] 67)).trans (hb5.mono (hbel.alloc hbel.size (.cells #[.int .i64 (P.st k).kind, .int .i64 (v : Nat), .int .i64 (e : Nat), .slice A3 (P.st k).nc c3, .slice A4 (P.st k).nt c4, .slice A5 (P.st k).ne c5, .int .i64 (P.st k).times, .int .i64 (P.st k).proc] 67)).size)
                   have hV5 := hV4.below hb5 hV4.lt
                   have hown5 := own_stay (hown.alloc (.cells #[.int .i64 (P.st k).kind, .int .i64 (v : Nat), .int .i64 (e : Nat), .slice A3 (P.st k).nc c3, .slice A4 (P.st k).nt c4, .slice A5 (P.st k).ne c5, .int .i64 (P.st k).times, .int .i64 (P.st k).proc] 67)) hb5 (Nat.le_refl _)
                   clear hr hb5 v0 v1 v2 v3 v4 v5 v6 v7 vf q0 q1 q2 q3 q4 q5 qf
                   have hP5 := hP3.below hbel5 hP3.lt
                   obtain ⟨v0, v1, v2, v3, v4, v5, v6, v7, vf⟩ := hV5.eight
                   obtain ⟨q0, q1, q2, q3, q4, q5, qf⟩ := hP5.six)
                | (go_at_call 52
                   refine (CG.out _ (hB3.trans (hbel5.mono hB3.size))).mono ?_
                   rintro e6 w6 ⟨rfl, hb6⟩
                   have hbel6 := hbel5.trans (hb6.mono hbel5.size)
                   have hV6 := (hV5.below hb6 hV5.lt).alloc (.cells #[.int .i64 x, .int .i64 y] 70)
                   have hown6 := (own_stay hown5 hb6 (Nat.le_refl _)).alloc (.cells #[.int .i64 x, .int .i64 y] 70)
                   have hI6 := Box.new w6 70 #[.int .i64 x, .int .i64 y]
                   have hbel7 := hbel6.alloc hbel6.size (.cells #[.int .i64 x, .int .i64 y] 70)
                   clear hb6 v0 v1 v2 v3 v4 v5 v6 v7 vf q0 q1 q2 q3 q4 q5 qf hP5 hV5
                   have hP7 := hP3.below hbel7 hP3.lt
                   obtain ⟨i0', i1', if'⟩ := hI6.duo
                   obtain ⟨v0, v1, v2, v3, v4, v5, v6, v7, vf⟩ := hV6.eight
                   obtain ⟨q0, q1, q2, q3, q4, q5, qf⟩ := hP7.six))
               obtain ⟨w7, hw7⟩ : ∃ w7, w7 = w6.alloc (.cells #[.int .i64 x, .int .i64 y] 70) := ⟨_, rfl⟩
               rw [← hw7] at hV6 hown6 hI6 hbel7 hP7 i0' i1' if' v0 v1 v2 v3 v4 v5 v6 v7 vf q0 q1 q2 q3 q4 q5 qf ⊢
               clear hw7
               have u1 := CW.out w7 (hB3.trans (hbel7.mono hB3.size))
               have hD : ∀ n, Below w7.heap.size w7 (w7.drewN n) := fun n => below_drewN n (Below.refl _ _)
               go_quiet (fail)
               generalize hw8 : w7.drewN _ = w8
               have hb8 : Below w7.heap.size w7 w8 := hw8 ▸ hD _
               clear hD hw8
               have hV8b := hV6.below hb8 hV6.lt
               have hI8 := hI6.below hb8 hI6.lt
               have hown8 := own_stay hown6 hb8 (Nat.le_refl _)
               have hbel8 := hbel7.trans (hb8.mono hbel7.size)
               have hP8 := hP3.below hbel8 hP3.lt
               have hsz8 := hbel8.size
               clear v0 v1 v2 v3 v4 v5 v6 v7 vf q0 q1 q2 q3 q4 q5 qf i0' i1' if' hb8 u1 CW hd0
               obtain ⟨i0', i1', if'⟩ := hI8.duo
               obtain ⟨v0, v1, v2, v3, v4, v5, v6, v7, vf⟩ := hV8b.eight
               obtain ⟨q0, q1, q2, q3, q4, q5, qf⟩ := hP8.six
               go_wp2_with (first
                | (go_at_call 55
                   refine (CV.out _ (hB3.trans (hbel8.mono hB3.size))).mono ?_
                   rintro r6 wv ⟨A6, c6, rfl, hl6, hbv⟩
                   have hbelv := hbel8.trans (hbv.mono hbel8.size)
                   have hownv := own_stay hown8 hbv (Nat.le_refl _)
                   have hXv := hb2.below hbelv hb2.lt
                   have hszv := hbelv.size
                   clear v0 v1 v2 v3 v4 v5 v6 v7 vf q0 q1 q2 q3 q4 q5 qf))
               go_loopg [7, 98] xs.length (fun q ov iv wr => ∃ j : Nat, j + q = xs.length ∧ iv = .int .i64 (j : Nat) ∧ Hid (fu (asS P P.ns) xs = fu (asS P P.ns) (xs.drop j)) ∧ wv.ownsRow W0.heap.size 75 3 ov m (cellsL (teS P k)) ∧ wv = wr)
               case atStart => exact ⟨0, by omega, rfl, Lib.hid rfl, hownv, rfl⟩
               case round =>
                 clear hownv
                 obtain ⟨j, hj, rfl, hfu, hownv, rfl⟩ := hrel
                 by_cases hj0 : j < xs.length
                 · obtain ⟨b7, off7, rfl, hb7, y7⟩ := hl6.at_ hj0
                   obtain ⟨z, hz, hzn⟩ := HVL.out j hj0
                   have kz := HM.out.at_ hXv hzn
                   have hzi : (z : Int) < (P.nv : Int) := by omega
                   cases ha : asS P P.ns z with
                   | true =>
                     have HF : Hid (fu (asS P P.ns) xs = fu (asS P P.ns) (xs.drop (j + 1))) := Lib.hid (hfu.out.trans (fu_step hj0 (by rw [hz, Int.toNat_natCast]; exact ha)))
                     rw [hz] at y7
                     rw [ha] at kz
                     clear ha hz hfu
                     go_wp2_with fail
                     go_roundg (gk - 1)
                     case rel => exact ⟨j + 1, by omega, by go_num, HF, hownv, rfl⟩
                     case measure => omega
                   | false =>
                     have HF : Hid (teS P (k + 1) = teS P k ++ [3, (k : Int), (z : Int)]) := Lib.hid (HTs.out _ (by rw [hfu.out, fu_hit hj0 (by rw [hz, Int.toNat_natCast]; exact ha), hz]))
                     rw [hz] at y7
                     rw [ha] at kz
                     clear ha hz hfu
                     go_wp2_with (at_builtin; refine wpList_append_own _ rfl _ _ 30 rfl W0.heap.size 75 i0 (.agg #[.int .i64 0, .int .i64 0, .int .i64 0]) 3 24 Tryz.underlying30 ji jz0 jz1 jz2 rfl (by decide) _ m _ rfl (hownv.alloc _) ⟨wv.heap.size, 0, none⟩ 1 1 [.int .i64 3, .int .i64 (k : Nat), .int .i64 (z : Nat)] rfl rfl (cell3_new _ _ _ _ _) (one3_int _ _ _) (by unfold maxLen; omega) (by omega) (by simp; omega) ?_; intro lvb wb hownb hgrowb _)
                     go_roundg (P.ns - (k + 1))
                     case rel => exact ⟨k + 1, m + 1, by omega, by go_num, Lib.hid (by rw [HF.out]; have := hm.out; simp; omega), by rw [HF.out, cellsL_app]; exact hownb, (hbelv.alloc hbelv.size (.cells #[.int .i64 3, .int .i64 (k : Nat), .int .i64 (z : Nat)] 75)).grown hgrowb (by simp; omega) (fun r hr => (hownv.lt r hr).1)⟩
                     case measure => omega
                 · obtain rfl : j = xs.length := by omega
                   have HF : Hid (teS P (k + 1) = teS P k) := Lib.hid (HTn.out (by rw [hfu.out, fu_end]))
                   clear hfu
                   go_wp2_with fail
                   go_roundg (P.ns - (k + 1))
                   case rel => exact ⟨k + 1, m + 0, by omega, by go_num, Lib.hid (by rw [HF.out]; have := hm.out; simp; omega), by rw [HF.out]; exact hownv, hbelv⟩
                   case measure => omega
           · have d2 : ((P.st k).kind == 2) = false := beq_false_of_ne h2
             have d2n : ((P.st k).kind != 2) = true := bne_iff_ne.2 h2
             have hv0 := var_zero (HST.out k hk0) hkk h2
             have CH : Hid (∀ W, Calls Tryz.prog 51 #[.agg #[.int .i64 (P.st k).kind, .int .i64 0, .int .i64 (e : Nat), .slice A3 (P.st k).nc c3, .slice A4 (P.st k).nt c4, .slice A5 (P.st k).ne c5, .int .i64 (P.st k).times, .int .i64 (P.st k).proc]] W (Yn (Has (P.st k).kind) W)) := Lib.hid fun W => by
                have := specHas_any (P.st k) A3 A4 A5 c3 c4 c5 W
                rw [he, hv0] at this
                exact this
             have CY0 := fun W => yes_any x y W
             have CN0 := fun W => no_any x y W
             rw [hv0] at r1
             cases hd0 : decide (0 < (ivE P e).1) with
             | true =>
               rw [hx, hd0] at CY0
               rw [← hx] at CY0
               have CY := Lib.hid CY0
               clear CY0 CN0
               have HT0 : Hid (teS P (k + 1) = (teS P k ++ [2, (k : Int), 0]) ++ teB k (fu (asS P P.ns) xs)) := Lib.hid (by
                 rw [te_yes hkk, teX, he, Int.toNat_natCast, ← hxs, ← hc]
                 rw [show c = 2 by rw [hc, teC, if_neg h2]; simp only [hd0, Bool.true_or]; rfl, hv0]; rfl)
               have HTn : Hid (fu (asS P P.ns) xs = none → teS P (k + 1) = (teS P k ++ [2, (k : Int), 0])) := Lib.hid fun h => by rw [HT0.out, h]; exact List.append_nil _
               have HTs : Hid (∀ z, fu (asS P P.ns) xs = some z → teS P (k + 1) = (teS P k ++ [2, (k : Int), 0]) ++ [3, (k : Int), z]) := Lib.hid fun z h => by rw [HT0.out, h]; rfl
               have hV4 := Box.new w4 67 #[.int .i64 (P.st k).kind, .int .i64 0, .int .i64 (e : Nat), .slice A3 (P.st k).nc c3, .slice A4 (P.st k).nt c4, .slice A5 (P.st k).ne c5, .int .i64 (P.st k).times, .int .i64 (P.st k).proc]
               obtain ⟨v0, v1, v2, v3, v4, v5, v6, v7, vf⟩ := hV4.eight
               have hne : some w4.heap.size ≠ Value.ownBlock _ := fun z => Nat.lt_irrefl _ (hown.lt _ z.symm).2
               skip
               clear HT0 hkk e0 e1 he hxs hx hy hc hP h2 hv0 hd0
               go_upto_region 16 with (first
                | (go_at_call 51
                   refine (CH.out _).mono ?_
                   rintro e5 w5 ⟨r, rfl, hr, hb5⟩
                   obtain rfl : r = true := hr.out.2 HK.out
                   have hbel5 := (hbel.alloc hbel.size (.cells #[.int .i64 (P.st k).kind, .int .i64 0, .int .i64 (e : Nat), .slice A3 (P.st k).nc c3, .slice A4 (P.st k).nt c4, .slice A5 (P.st k).ne c5, .int .i64 (P.st k).times, .int .i64 (P.st k).proc] 67)).trans (hb5.mono (hbel.alloc hbel.size (.cells #[.int .i64 (P.st k).kind, .int .i64 0, .int .i64 (e : Nat), .slice A3 (P.st k).nc c3, .slice A4 (P.st k).nt c4, .slice A5 (P.st k).ne c5, .int .i64 (P.st k).times, .int .i64 (P.st k).proc] 67)).size)
                   have hV5 := hV4.below hb5 hV4.lt
                   have hown5 := own_stay (hown.alloc (.cells #[.int .i64 (P.st k).kind, .int .i64 0, .int .i64 (e : Nat), .slice A3 (P.st k).nc c3, .slice A4 (P.st k).nt c4, .slice A5 (P.st k).ne c5, .int .i64 (P.st k).times, .int .i64 (P.st k).proc] 67)) hb5 (Nat.le_refl _)
                   clear hr hb5 v0 v1 v2 v3 v4 v5 v6 v7 vf q0 q1 q2 q3 q4 q5 qf
                   have hP5 := hP3.below hbel5 hP3.lt
                   obtain ⟨v0, v1, v2, v3, v4, v5, v6, v7, vf⟩ := hV5.eight
                   obtain ⟨q0, q1, q2, q3, q4, q5, qf⟩ := hP5.six)
                | (go_at_call 52
                   refine (CG.out _ (hB3.trans (hbel5.mono hB3.size))).mono ?_
                   rintro e6 w6 ⟨rfl, hb6⟩
                   have hbel6 := hbel5.trans (hb6.mono hbel5.size)
                   have hV6 := (hV5.below hb6 hV5.lt).alloc (.cells #[.int .i64 x, .int .i64 y] 70)
                   have hown6 := (own_stay hown5 hb6 (Nat.le_refl _)).alloc (.cells #[.int .i64 x, .int .i64 y] 70)
                   have hI6 := Box.new w6 70 #[.int .i64 x, .int .i64 y]
                   have hbel7 := hbel6.alloc hbel6.size (.cells #[.int .i64 x, .int .i64 y] 70)
                   clear hb6 v0 v1 v2 v3 v4 v5 v6 v7 vf q0 q1 q2 q3 q4 q5 qf hP5 hV5
                   have hP7 := hP3.below hbel7 hP3.lt
                   obtain ⟨i0', i1', if'⟩ := hI6.duo
                   obtain ⟨v0, v1, v2, v3, v4, v5, v6, v7, vf⟩ := hV6.eight
                   obtain ⟨q0, q1, q2, q3, q4, q5, qf⟩ := hP7.six))
               obtain ⟨w7, hw7⟩ : ∃ w7, w7 = w6.alloc (.cells #[.int .i64 x, .int .i64 y] 70) := ⟨_, rfl⟩
               rw [← hw7] at hV6 hown6 hI6 hbel7 hP7 i0' i1' if' v0 v1 v2 v3 v4 v5 v6 v7 vf q0 q1 q2 q3 q4 q5 qf ⊢
               clear hw7
               skip
               have hD : ∀ n, Below w7.heap.size w7 (w7.drewN n) := fun n => below_drewN n (Below.refl _ _)
               go_quiet (fail)
               generalize hw8 : w7.drewN _ = w8
               have hb8 : Below w7.heap.size w7 w8 := hw8 ▸ hD _
               clear hD hw8
               have hV8b := hV6.below hb8 hV6.lt
               have hI8 := hI6.below hb8 hI6.lt
               have hown8 := own_stay hown6 hb8 (Nat.le_refl _)
               have hbel8 := hbel7.trans (hb8.mono hbel7.size)
               have hP8 := hP3.below hbel8 hP3.lt
               have hsz8 := hbel8.size
               clear v0 v1 v2 v3 v4 v5 v6 v7 vf q0 q1 q2 q3 q4 q5 qf i0' i1' if' hb8 
               obtain ⟨i0', i1', if'⟩ := hI8.duo
               obtain ⟨v0, v1, v2, v3, v4, v5, v6, v7, vf⟩ := hV8b.eight
               obtain ⟨q0, q1, q2, q3, q4, q5, qf⟩ := hP8.six
               go_wp2_with (first
                | (go_at_call 53
                   refine (CY.out _).mono ?_
                   rintro ey wy ⟨rfl, hby⟩
                   have hV8b := hV8b.below hby hV8b.lt
                   have hI8 := hI8.below hby hI8.lt
                   have hown8 := own_stay hown8 hby (Nat.le_refl _)
                   have hbel8 := hbel8.trans (hby.mono hbel8.size)
                   have hP8 := hP3.below hbel8 hP3.lt
                   have hsz8 := hbel8.size
                   clear hby v0 v1 v2 v3 v4 v5 v6 v7 vf q0 q1 q2 q3 q4 q5 qf i0' i1' if'
                   obtain ⟨i0', i1', if'⟩ := hI8.duo
                   obtain ⟨v0, v1, v2, v3, v4, v5, v6, v7, vf⟩ := hV8b.eight
                   obtain ⟨q0, q1, q2, q3, q4, q5, qf⟩ := hP8.six)
                | (at_builtin; refine wpList_append_own _ rfl _ _ 30 rfl W0.heap.size 75 i0 (.agg #[.int .i64 0, .int .i64 0, .int .i64 0]) 3 24 Tryz.underlying30 ji jz0 jz1 jz2 rfl (by decide) _ m _ rfl (hown8.alloc _) ⟨wy.heap.size, 0, none⟩ 1 1 [.int .i64 2, .int .i64 (k : Nat), .int .i64 0] rfl rfl (cell3_new _ _ _ _ _) (one3_int _ _ _) (by unfold maxLen; omega) (by omega) (by simp; omega) ?_; intro lv9 w9 hown9 hgrow9 _
                   have hV9 := (hV8b.alloc (.cells #[.int .i64 2, .int .i64 (k : Nat), .int .i64 0] 75)).growT hgrow9 hne
                   have hbel9 := (hbel8.alloc hbel8.size (.cells #[.int .i64 2, .int .i64 (k : Nat), .int .i64 0] 75)).grown hgrow9 (by simp; omega) (fun r hr => (hown8.lt r hr).1)
                   have hP9 := hP3.below hbel9 hP3.lt
                   have hsz9 := hbel9.size
                   clear v0 v1 v2 v3 v4 v5 v6 v7 vf q0 q1 q2 q3 q4 q5 qf
                   obtain ⟨v0, v1, v2, v3, v4, v5, v6, v7, vf⟩ := hV9.eight
                   obtain ⟨q0, q1, q2, q3, q4, q5, qf⟩ := hP9.six)
                | (go_at_call 55
                   refine (CV.out _ (hB3.trans (hbel9.mono hB3.size))).mono ?_
                   rintro r6 wv ⟨A6, c6, rfl, hl6, hbv⟩
                   have hbelv := hbel9.trans (hbv.mono hbel9.size)
                   have hownv := own_stay hown9 hbv (Nat.le_refl _)
                   have hXv := hb2.below hbelv hb2.lt
                   have hszv := hbelv.size
                   clear v0 v1 v2 v3 v4 v5 v6 v7 vf q0 q1 q2 q3 q4 q5 qf))
               go_loopg [7, 98] xs.length (fun q ov iv wr => ∃ j : Nat, j + q = xs.length ∧ iv = .int .i64 (j : Nat) ∧ Hid (fu (asS P P.ns) xs = fu (asS P P.ns) (xs.drop j)) ∧ wv.ownsRow W0.heap.size 75 3 ov (m + 1) (cellsL (teS P k) ++ cellsL [2, (k : Int), 0]) ∧ wv = wr)
               case atStart => exact ⟨0, by omega, rfl, Lib.hid rfl, hownv, rfl⟩
               case round =>
                 clear hownv
                 obtain ⟨j, hj, rfl, hfu, hownv, rfl⟩ := hrel
                 by_cases hj0 : j < xs.length
                 · obtain ⟨b7, off7, rfl, hb7, y7⟩ := hl6.at_ hj0
                   obtain ⟨z, hz, hzn⟩ := HVL.out j hj0
                   have kz := HM.out.at_ hXv hzn
                   have hzi : (z : Int) < (P.nv : Int) := by omega
                   cases ha : asS P P.ns z with
                   | true =>
                     have HF : Hid (fu (asS P P.ns) xs = fu (asS P P.ns) (xs.drop (j + 1))) := Lib.hid (hfu.out.trans (fu_step hj0 (by rw [hz, Int.toNat_natCast]; exact ha)))
                     rw [hz] at y7
                     rw [ha] at kz
                     clear ha hz hfu
                     go_wp2_with fail
                     go_roundg (gk - 1)
                     case rel => exact ⟨j + 1, by omega, by go_num, HF, hownv, rfl⟩
                     case measure => omega
                   | false =>
                     have HF : Hid (teS P (k + 1) = (teS P k ++ [2, (k : Int), 0]) ++ [3, (k : Int), (z : Int)]) := Lib.hid (HTs.out _ (by rw [hfu.out, fu_hit hj0 (by rw [hz, Int.toNat_natCast]; exact ha), hz]))
                     rw [hz] at y7
                     rw [ha] at kz
                     clear ha hz hfu
                     go_wp2_with (at_builtin; refine wpList_append_own _ rfl _ _ 30 rfl W0.heap.size 75 i0 (.agg #[.int .i64 0, .int .i64 0, .int .i64 0]) 3 24 Tryz.underlying30 ji jz0 jz1 jz2 rfl (by decide) _ (m + 1) _ rfl (hownv.alloc _) ⟨wv.heap.size, 0, none⟩ 1 1 [.int .i64 3, .int .i64 (k : Nat), .int .i64 (z : Nat)] rfl rfl (cell3_new _ _ _ _ _) (one3_int _ _ _) (by unfold maxLen; omega) (by omega) (by simp; omega) ?_; intro lvb wb hownb hgrowb _)
                     go_roundg (P.ns - (k + 1))
                     case rel => exact ⟨k + 1, m + 2, by omega, by go_num, Lib.hid (by rw [HF.out]; have := hm.out; simp; omega), by rw [HF.out, cellsL_app, cellsL_app]; exact hownb, (hbelv.alloc hbelv.size (.cells #[.int .i64 3, .int .i64 (k : Nat), .int .i64 (z : Nat)] 75)).grown hgrowb (by simp; omega) (fun r hr => (hownv.lt r hr).1)⟩
                     case measure => omega
                 · obtain rfl : j = xs.length := by omega
                   have HF : Hid (teS P (k + 1) = (teS P k ++ [2, (k : Int), 0])) := Lib.hid (HTn.out (by rw [hfu.out, fu_end]))
                   clear hfu
                   go_wp2_with fail
                   go_roundg (P.ns - (k + 1))
                   case rel => exact ⟨k + 1, m + 1, by omega, by go_num, Lib.hid (by rw [HF.out]; have := hm.out; simp; omega), by rw [HF.out, cellsL_app]; exact hownv, hbelv⟩
                   case measure => omega
             | false =>
               rw [hx, hd0] at CY0
               rw [← hx] at CY0
               have CY := Lib.hid CY0
               clear CY0
               cases hd1 : ((ivE P e).2 == 0) with
               | true =>
                 rw [hy, hd1] at CN0
                 rw [← hy] at CN0
                 have CN := Lib.hid CN0
                 clear CN0
                 have HT0 : Hid (teS P (k + 1) = (teS P k ++ [2, (k : Int), 0]) ++ teB k (fu (asS P P.ns) xs)) := Lib.hid (by
                   rw [te_yes hkk, teX, he, Int.toNat_natCast, ← hxs, ← hc]
                   rw [show c = 2 by rw [hc, teC, if_neg h2]; simp only [hd0, hd1, Bool.false_or]; rfl, hv0]; rfl)
                 have HTn : Hid (fu (asS P P.ns) xs = none → teS P (k + 1) = (teS P k ++ [2, (k : Int), 0])) := Lib.hid fun h => by rw [HT0.out, h]; exact List.append_nil _
                 have HTs : Hid (∀ z, fu (asS P P.ns) xs = some z → teS P (k + 1) = (teS P k ++ [2, (k : Int), 0]) ++ [3, (k : Int), z]) := Lib.hid fun z h => by rw [HT0.out, h]; rfl
                 have hV4 := Box.new w4 67 #[.int .i64 (P.st k).kind, .int .i64 0, .int .i64 (e : Nat), .slice A3 (P.st k).nc c3, .slice A4 (P.st k).nt c4, .slice A5 (P.st k).ne c5, .int .i64 (P.st k).times, .int .i64 (P.st k).proc]
                 obtain ⟨v0, v1, v2, v3, v4, v5, v6, v7, vf⟩ := hV4.eight
                 have hne : some w4.heap.size ≠ Value.ownBlock _ := fun z => Nat.lt_irrefl _ (hown.lt _ z.symm).2
                 skip
                 clear HT0 hkk e0 e1 he hxs hx hy hc hP h2 hv0 hd0 hd1
                 go_upto_region 16 with (first
                  | (go_at_call 51
                     refine (CH.out _).mono ?_
                     rintro e5 w5 ⟨r, rfl, hr, hb5⟩
                     obtain rfl : r = true := hr.out.2 HK.out
                     have hbel5 := (hbel.alloc hbel.size (.cells #[.int .i64 (P.st k).kind, .int .i64 0, .int .i64 (e : Nat), .slice A3 (P.st k).nc c3, .slice A4 (P.st k).nt c4, .slice A5 (P.st k).ne c5, .int .i64 (P.st k).times, .int .i64 (P.st k).proc] 67)).trans (hb5.mono (hbel.alloc hbel.size (.cells #[.int .i64 (P.st k).kind, .int .i64 0, .int .i64 (e : Nat), .slice A3 (P.st k).nc c3, .slice A4 (P.st k).nt c4, .slice A5 (P.st k).ne c5, .int .i64 (P.st k).times, .int .i64 (P.st k).proc] 67)).size)
                     have hV5 := hV4.below hb5 hV4.lt
                     have hown5 := own_stay (hown.alloc (.cells #[.int .i64 (P.st k).kind, .int .i64 0, .int .i64 (e : Nat), .slice A3 (P.st k).nc c3, .slice A4 (P.st k).nt c4, .slice A5 (P.st k).ne c5, .int .i64 (P.st k).times, .int .i64 (P.st k).proc] 67)) hb5 (Nat.le_refl _)
                     clear hr hb5 v0 v1 v2 v3 v4 v5 v6 v7 vf q0 q1 q2 q3 q4 q5 qf
                     have hP5 := hP3.below hbel5 hP3.lt
                     obtain ⟨v0, v1, v2, v3, v4, v5, v6, v7, vf⟩ := hV5.eight
                     obtain ⟨q0, q1, q2, q3, q4, q5, qf⟩ := hP5.six)
                  | (go_at_call 52
                     refine (CG.out _ (hB3.trans (hbel5.mono hB3.size))).mono ?_
                     rintro e6 w6 ⟨rfl, hb6⟩
                     have hbel6 := hbel5.trans (hb6.mono hbel5.size)
                     have hV6 := (hV5.below hb6 hV5.lt).alloc (.cells #[.int .i64 x, .int .i64 y] 70)
                     have hown6 := (own_stay hown5 hb6 (Nat.le_refl _)).alloc (.cells #[.int .i64 x, .int .i64 y] 70)
                     have hI6 := Box.new w6 70 #[.int .i64 x, .int .i64 y]
                     have hbel7 := hbel6.alloc hbel6.size (.cells #[.int .i64 x, .int .i64 y] 70)
                     clear hb6 v0 v1 v2 v3 v4 v5 v6 v7 vf q0 q1 q2 q3 q4 q5 qf hP5 hV5
                     have hP7 := hP3.below hbel7 hP3.lt
                     obtain ⟨i0', i1', if'⟩ := hI6.duo
                     obtain ⟨v0, v1, v2, v3, v4, v5, v6, v7, vf⟩ := hV6.eight
                     obtain ⟨q0, q1, q2, q3, q4, q5, qf⟩ := hP7.six))
                 obtain ⟨w7, hw7⟩ : ∃ w7, w7 = w6.alloc (.cells #[.int .i64 x, .int .i64 y] 70) := ⟨_, rfl⟩
                 rw [← hw7] at hV6 hown6 hI6 hbel7 hP7 i0' i1' if' v0 v1 v2 v3 v4 v5 v6 v7 vf q0 q1 q2 q3 q4 q5 qf ⊢
                 clear hw7
                 skip
                 have hD : ∀ n, Below w7.heap.size w7 (w7.drewN n) := fun n => below_drewN n (Below.refl _ _)
                 go_quiet (fail)
                 generalize hw8 : w7.drewN _ = w8
                 have hb8 : Below w7.heap.size w7 w8 := hw8 ▸ hD _
                 clear hD hw8
                 have hV8b := hV6.below hb8 hV6.lt
                 have hI8 := hI6.below hb8 hI6.lt
                 have hown8 := own_stay hown6 hb8 (Nat.le_refl _)
                 have hbel8 := hbel7.trans (hb8.mono hbel7.size)
                 have hP8 := hP3.below hbel8 hP3.lt
                 have hsz8 := hbel8.size
                 clear v0 v1 v2 v3 v4 v5 v6 v7 vf q0 q1 q2 q3 q4 q5 qf i0' i1' if' hb8 
                 obtain ⟨i0', i1', if'⟩ := hI8.duo
                 obtain ⟨v0, v1, v2, v3, v4, v5, v6, v7, vf⟩ := hV8b.eight
                 obtain ⟨q0, q1, q2, q3, q4, q5, qf⟩ := hP8.six
                 go_wp2_with (first
                  | (go_at_call 53
                     refine (CY.out _).mono ?_
                     rintro ey wy ⟨rfl, hby⟩
                     have hV8b := hV8b.below hby hV8b.lt
                     have hI8 := hI8.below hby hI8.lt
                     have hown8 := own_stay hown8 hby (Nat.le_refl _)
                     have hbel8 := hbel8.trans (hby.mono hbel8.size)
                     have hP8 := hP3.below hbel8 hP3.lt
                     have hsz8 := hbel8.size
                     clear hby v0 v1 v2 v3 v4 v5 v6 v7 vf q0 q1 q2 q3 q4 q5 qf i0' i1' if'
                     obtain ⟨i0', i1', if'⟩ := hI8.duo
                     obtain ⟨v0, v1, v2, v3, v4, v5, v6, v7, vf⟩ := hV8b.eight
                     obtain ⟨q0, q1, q2, q3, q4, q5, qf⟩ := hP8.six)
                  | (go_at_call 54
                     refine (CN.out _).mono ?_
                     rintro en wn ⟨rfl, hby⟩
                     have hV8b := hV8b.below hby hV8b.lt
                     have hI8 := hI8.below hby hI8.lt
                     have hown8 := own_stay hown8 hby (Nat.le_refl _)
                     have hbel8 := hbel8.trans (hby.mono hbel8.size)
                     have hP8 := hP3.below hbel8 hP3.lt
                     have hsz8 := hbel8.size
                     clear hby v0 v1 v2 v3 v4 v5 v6 v7 vf q0 q1 q2 q3 q4 q5 qf i0' i1' if'
                     obtain ⟨i0', i1', if'⟩ := hI8.duo
                     obtain ⟨v0, v1, v2, v3, v4, v5, v6, v7, vf⟩ := hV8b.eight
                     obtain ⟨q0, q1, q2, q3, q4, q5, qf⟩ := hP8.six)
                  | (at_builtin; refine wpList_append_own _ rfl _ _ 30 rfl W0.heap.size 75 i0 (.agg #[.int .i64 0, .int .i64 0, .int .i64 0]) 3 24 Tryz.underlying30 ji jz0 jz1 jz2 rfl (by decide) _ m _ rfl (hown8.alloc _) ⟨wn.heap.size, 0, none⟩ 1 1 [.int .i64 2, .int .i64 (k : Nat), .int .i64 0] rfl rfl (cell3_new _ _ _ _ _) (one3_int _ _ _) (by unfold maxLen; omega) (by omega) (by simp; omega) ?_; intro lv9 w9 hown9 hgrow9 _
                     have hV9 := (hV8b.alloc (.cells #[.int .i64 2, .int .i64 (k : Nat), .int .i64 0] 75)).growT hgrow9 hne
                     have hbel9 := (hbel8.alloc hbel8.size (.cells #[.int .i64 2, .int .i64 (k : Nat), .int .i64 0] 75)).grown hgrow9 (by simp; omega) (fun r hr => (hown8.lt r hr).1)
                     have hP9 := hP3.below hbel9 hP3.lt
                     have hsz9 := hbel9.size
                     clear v0 v1 v2 v3 v4 v5 v6 v7 vf q0 q1 q2 q3 q4 q5 qf
                     obtain ⟨v0, v1, v2, v3, v4, v5, v6, v7, vf⟩ := hV9.eight
                     obtain ⟨q0, q1, q2, q3, q4, q5, qf⟩ := hP9.six)
                  | (go_at_call 55
                     refine (CV.out _ (hB3.trans (hbel9.mono hB3.size))).mono ?_
                     rintro r6 wv ⟨A6, c6, rfl, hl6, hbv⟩
                     have hbelv := hbel9.trans (hbv.mono hbel9.size)
                     have hownv := own_stay hown9 hbv (Nat.le_refl _)
                     have hXv := hb2.below hbelv hb2.lt
                     have hszv := hbelv.size
                     clear v0 v1 v2 v3 v4 v5 v6 v7 vf q0 q1 q2 q3 q4 q5 qf))
                 go_loopg [7, 98] xs.length (fun q ov iv wr => ∃ j : Nat, j + q = xs.length ∧ iv = .int .i64 (j : Nat) ∧ Hid (fu (asS P P.ns) xs = fu (asS P P.ns) (xs.drop j)) ∧ wv.ownsRow W0.heap.size 75 3 ov (m + 1) (cellsL (teS P k) ++ cellsL [2, (k : Int), 0]) ∧ wv = wr)
                 case atStart => exact ⟨0, by omega, rfl, Lib.hid rfl, hownv, rfl⟩
                 case round =>
                   clear hownv
                   obtain ⟨j, hj, rfl, hfu, hownv, rfl⟩ := hrel
                   by_cases hj0 : j < xs.length
                   · obtain ⟨b7, off7, rfl, hb7, y7⟩ := hl6.at_ hj0
                     obtain ⟨z, hz, hzn⟩ := HVL.out j hj0
                     have kz := HM.out.at_ hXv hzn
                     have hzi : (z : Int) < (P.nv : Int) := by omega
                     cases ha : asS P P.ns z with
                     | true =>
                       have HF : Hid (fu (asS P P.ns) xs = fu (asS P P.ns) (xs.drop (j + 1))) := Lib.hid (hfu.out.trans (fu_step hj0 (by rw [hz, Int.toNat_natCast]; exact ha)))
                       rw [hz] at y7
                       rw [ha] at kz
                       clear ha hz hfu
                       go_wp2_with fail
                       go_roundg (gk - 1)
                       case rel => exact ⟨j + 1, by omega, by go_num, HF, hownv, rfl⟩
                       case measure => omega
                     | false =>
                       have HF : Hid (teS P (k + 1) = (teS P k ++ [2, (k : Int), 0]) ++ [3, (k : Int), (z : Int)]) := Lib.hid (HTs.out _ (by rw [hfu.out, fu_hit hj0 (by rw [hz, Int.toNat_natCast]; exact ha), hz]))
                       rw [hz] at y7
                       rw [ha] at kz
                       clear ha hz hfu
                       go_wp2_with (at_builtin; refine wpList_append_own _ rfl _ _ 30 rfl W0.heap.size 75 i0 (.agg #[.int .i64 0, .int .i64 0, .int .i64 0]) 3 24 Tryz.underlying30 ji jz0 jz1 jz2 rfl (by decide) _ (m + 1) _ rfl (hownv.alloc _) ⟨wv.heap.size, 0, none⟩ 1 1 [.int .i64 3, .int .i64 (k : Nat), .int .i64 (z : Nat)] rfl rfl (cell3_new _ _ _ _ _) (one3_int _ _ _) (by unfold maxLen; omega) (by omega) (by simp; omega) ?_; intro lvb wb hownb hgrowb _)
                       go_roundg (P.ns - (k + 1))
                       case rel => exact ⟨k + 1, m + 2, by omega, by go_num, Lib.hid (by rw [HF.out]; have := hm.out; simp; omega), by rw [HF.out, cellsL_app, cellsL_app]; exact hownb, (hbelv.alloc hbelv.size (.cells #[.int .i64 3, .int .i64 (k : Nat), .int .i64 (z : Nat)] 75)).grown hgrowb (by simp; omega) (fun r hr => (hownv.lt r hr).1)⟩
                       case measure => omega
                   · obtain rfl : j = xs.length := by omega
                     have HF : Hid (teS P (k + 1) = (teS P k ++ [2, (k : Int), 0])) := Lib.hid (HTn.out (by rw [hfu.out, fu_end]))
                     clear hfu
                     go_wp2_with fail
                     go_roundg (P.ns - (k + 1))
                     case rel => exact ⟨k + 1, m + 1, by omega, by go_num, Lib.hid (by rw [HF.out]; have := hm.out; simp; omega), by rw [HF.out, cellsL_app]; exact hownv, hbelv⟩
                     case measure => omega
               | false =>
                 rw [hy, hd1] at CN0
                 rw [← hy] at CN0
                 have CN := Lib.hid CN0
                 clear CN0
                 have HT0 : Hid (teS P (k + 1) = teS P k ++ teB k (fu (asS P P.ns) xs)) := Lib.hid (by
                   rw [te_yes hkk, teX, he, Int.toNat_natCast, ← hxs, ← hc]
                   rw [show c = 0 by rw [hc, teC, if_neg h2]; simp only [hd0, hd1, Bool.false_or]; rfl]; simp [teA])
                 have HTn : Hid (fu (asS P P.ns) xs = none → teS P (k + 1) = teS P k) := Lib.hid fun h => by rw [HT0.out, h]; exact List.append_nil _
                 have HTs : Hid (∀ z, fu (asS P P.ns) xs = some z → teS P (k + 1) = teS P k ++ [3, (k : Int), z]) := Lib.hid fun z h => by rw [HT0.out, h]; rfl
                 have hV4 := Box.new w4 67 #[.int .i64 (P.st k).kind, .int .i64 0, .int .i64 (e : Nat), .slice A3 (P.st k).nc c3, .slice A4 (P.st k).nt c4, .slice A5 (P.st k).ne c5, .int .i64 (P.st k).times, .int .i64 (P.st k).proc]
                 obtain ⟨v0, v1, v2, v3, v4, v5, v6, v7, vf⟩ := hV4.eight
                 have hne : some w4.heap.size ≠ Value.ownBlock _ := fun z => Nat.lt_irrefl _ (hown.lt _ z.symm).2
                 skip
                 clear HT0 hkk e0 e1 he hxs hx hy hc hP h2 hv0 hd0 hd1
                 go_upto_region 16 with (first
                  | (go_at_call 51
                     refine (CH.out _).mono ?_
                     rintro e5 w5 ⟨r, rfl, hr, hb5⟩
                     obtain rfl : r = true := hr.out.2 HK.out
                     have hbel5 := (hbel.alloc hbel.size (.cells #[.int .i64 (P.st k).kind, .int .i64 0, .int .i64 (e : Nat), .slice A3 (P.st k).nc c3, .slice A4 (P.st k).nt c4, .slice A5 (P.st k).ne c5, .int .i64 (P.st k).times, .int .i64 (P.st k).proc] 67)).trans (hb5.mono (hbel.alloc hbel.size (.cells #[.int .i64 (P.st k).kind, .int .i64 0, .int .i64 (e : Nat), .slice A3 (P.st k).nc c3, .slice A4 (P.st k).nt c4, .slice A5 (P.st k).ne c5, .int .i64 (P.st k).times, .int .i64 (P.st k).proc] 67)).size)
                     have hV5 := hV4.below hb5 hV4.lt
                     have hown5 := own_stay (hown.alloc (.cells #[.int .i64 (P.st k).kind, .int .i64 0, .int .i64 (e : Nat), .slice A3 (P.st k).nc c3, .slice A4 (P.st k).nt c4, .slice A5 (P.st k).ne c5, .int .i64 (P.st k).times, .int .i64 (P.st k).proc] 67)) hb5 (Nat.le_refl _)
                     clear hr hb5 v0 v1 v2 v3 v4 v5 v6 v7 vf q0 q1 q2 q3 q4 q5 qf
                     have hP5 := hP3.below hbel5 hP3.lt
                     obtain ⟨v0, v1, v2, v3, v4, v5, v6, v7, vf⟩ := hV5.eight
                     obtain ⟨q0, q1, q2, q3, q4, q5, qf⟩ := hP5.six)
                  | (go_at_call 52
                     refine (CG.out _ (hB3.trans (hbel5.mono hB3.size))).mono ?_
                     rintro e6 w6 ⟨rfl, hb6⟩
                     have hbel6 := hbel5.trans (hb6.mono hbel5.size)
                     have hV6 := (hV5.below hb6 hV5.lt).alloc (.cells #[.int .i64 x, .int .i64 y] 70)
                     have hown6 := (own_stay hown5 hb6 (Nat.le_refl _)).alloc (.cells #[.int .i64 x, .int .i64 y] 70)
                     have hI6 := Box.new w6 70 #[.int .i64 x, .int .i64 y]
                     have hbel7 := hbel6.alloc hbel6.size (.cells #[.int .i64 x, .int .i64 y] 70)
                     clear hb6 v0 v1 v2 v3 v4 v5 v6 v7 vf q0 q1 q2 q3 q4 q5 qf hP5 hV5
                     have hP7 := hP3.below hbel7 hP3.lt
                     obtain ⟨i0', i1', if'⟩ := hI6.duo
                     obtain ⟨v0, v1, v2, v3, v4, v5, v6, v7, vf⟩ := hV6.eight
                     obtain ⟨q0, q1, q2, q3, q4, q5, qf⟩ := hP7.six))
                 obtain ⟨w7, hw7⟩ : ∃ w7, w7 = w6.alloc (.cells #[.int .i64 x, .int .i64 y] 70) := ⟨_, rfl⟩
                 rw [← hw7] at hV6 hown6 hI6 hbel7 hP7 i0' i1' if' v0 v1 v2 v3 v4 v5 v6 v7 vf q0 q1 q2 q3 q4 q5 qf ⊢
                 clear hw7
                 skip
                 have hD : ∀ n, Below w7.heap.size w7 (w7.drewN n) := fun n => below_drewN n (Below.refl _ _)
                 go_quiet (fail)
                 generalize hw8 : w7.drewN _ = w8
                 have hb8 : Below w7.heap.size w7 w8 := hw8 ▸ hD _
                 clear hD hw8
                 have hV8b := hV6.below hb8 hV6.lt
                 have hI8 := hI6.below hb8 hI6.lt
                 have hown8 := own_stay hown6 hb8 (Nat.le_refl _)
                 have hbel8 := hbel7.trans (hb8.mono hbel7.size)
                 have hP8 := hP3.below hbel8 hP3.lt
                 have hsz8 := hbel8.size
                 clear v0 v1 v2 v3 v4 v5 v6 v7 vf q0 q1 q2 q3 q4 q5 qf i0' i1' if' hb8 
                 obtain ⟨i0', i1', if'⟩ := hI8.duo
                 obtain ⟨v0, v1, v2, v3, v4, v5, v6, v7, vf⟩ := hV8b.eight
                 obtain ⟨q0, q1, q2, q3, q4, q5, qf⟩ := hP8.six
                 go_wp2_with (first
                  | (go_at_call 53
                     refine (CY.out _).mono ?_
                     rintro ey wy ⟨rfl, hby⟩
                     have hV8b := hV8b.below hby hV8b.lt
                     have hI8 := hI8.below hby hI8.lt
                     have hown8 := own_stay hown8 hby (Nat.le_refl _)
                     have hbel8 := hbel8.trans (hby.mono hbel8.size)
                     have hP8 := hP3.below hbel8 hP3.lt
                     have hsz8 := hbel8.size
                     clear hby v0 v1 v2 v3 v4 v5 v6 v7 vf q0 q1 q2 q3 q4 q5 qf i0' i1' if'
                     obtain ⟨i0', i1', if'⟩ := hI8.duo
                     obtain ⟨v0, v1, v2, v3, v4, v5, v6, v7, vf⟩ := hV8b.eight
                     obtain ⟨q0, q1, q2, q3, q4, q5, qf⟩ := hP8.six)
                  | (go_at_call 54
                     refine (CN.out _).mono ?_
                     rintro en wn ⟨rfl, hby⟩
                     have hV8b := hV8b.below hby hV8b.lt
                     have hI8 := hI8.below hby hI8.lt
                     have hown8 := own_stay hown8 hby (Nat.le_refl _)
                     have hbel8 := hbel8.trans (hby.mono hbel8.size)
                     have hP8 := hP3.below hbel8 hP3.lt
                     have hsz8 := hbel8.size
                     clear hby v0 v1 v2 v3 v4 v5 v6 v7 vf q0 q1 q2 q3 q4 q5 qf i0' i1' if'
                     obtain ⟨i0', i1', if'⟩ := hI8.duo
                     obtain ⟨v0, v1, v2, v3, v4, v5, v6, v7, vf⟩ := hV8b.eight
                     obtain ⟨q0, q1, q2, q3, q4, q5, qf⟩ := hP8.six)
                  | (go_at_call 55
                     refine (CV.out _ (hB3.trans (hbel8.mono hB3.size))).mono ?_
                     rintro r6 wv ⟨A6, c6, rfl, hl6, hbv⟩
                     have hbelv := hbel8.trans (hbv.mono hbel8.size)
                     have hownv := own_stay hown8 hbv (Nat.le_refl _)
                     have hXv := hb2.below hbelv hb2.lt
                     have hszv := hbelv.size
                     clear v0 v1 v2 v3 v4 v5 v6 v7 vf q0 q1 q2 q3 q4 q5 qf))
                 go_loopg [7, 98] xs.length (fun q ov iv wr => ∃ j : Nat, j + q = xs.length ∧ iv = .int .i64 (j : Nat) ∧ Hid (fu (asS P P.ns) xs = fu (asS P P.ns) (xs.drop j)) ∧ wv.ownsRow W0.heap.size 75 3 ov m (cellsL (teS P k)) ∧ wv = wr)
                 case atStart => exact ⟨0, by omega, rfl, Lib.hid rfl, hownv, rfl⟩
                 case round =>
                   clear hownv
                   obtain ⟨j, hj, rfl, hfu, hownv, rfl⟩ := hrel
                   by_cases hj0 : j < xs.length
                   · obtain ⟨b7, off7, rfl, hb7, y7⟩ := hl6.at_ hj0
                     obtain ⟨z, hz, hzn⟩ := HVL.out j hj0
                     have kz := HM.out.at_ hXv hzn
                     have hzi : (z : Int) < (P.nv : Int) := by omega
                     cases ha : asS P P.ns z with
                     | true =>
                       have HF : Hid (fu (asS P P.ns) xs = fu (asS P P.ns) (xs.drop (j + 1))) := Lib.hid (hfu.out.trans (fu_step hj0 (by rw [hz, Int.toNat_natCast]; exact ha)))
                       rw [hz] at y7
                       rw [ha] at kz
                       clear ha hz hfu
                       go_wp2_with fail
                       go_roundg (gk - 1)
                       case rel => exact ⟨j + 1, by omega, by go_num, HF, hownv, rfl⟩
                       case measure => omega
                     | false =>
                       have HF : Hid (teS P (k + 1) = teS P k ++ [3, (k : Int), (z : Int)]) := Lib.hid (HTs.out _ (by rw [hfu.out, fu_hit hj0 (by rw [hz, Int.toNat_natCast]; exact ha), hz]))
                       rw [hz] at y7
                       rw [ha] at kz
                       clear ha hz hfu
                       go_wp2_with (at_builtin; refine wpList_append_own _ rfl _ _ 30 rfl W0.heap.size 75 i0 (.agg #[.int .i64 0, .int .i64 0, .int .i64 0]) 3 24 Tryz.underlying30 ji jz0 jz1 jz2 rfl (by decide) _ m _ rfl (hownv.alloc _) ⟨wv.heap.size, 0, none⟩ 1 1 [.int .i64 3, .int .i64 (k : Nat), .int .i64 (z : Nat)] rfl rfl (cell3_new _ _ _ _ _) (one3_int _ _ _) (by unfold maxLen; omega) (by omega) (by simp; omega) ?_; intro lvb wb hownb hgrowb _)
                       go_roundg (P.ns - (k + 1))
                       case rel => exact ⟨k + 1, m + 1, by omega, by go_num, Lib.hid (by rw [HF.out]; have := hm.out; simp; omega), by rw [HF.out, cellsL_app]; exact hownb, (hbelv.alloc hbelv.size (.cells #[.int .i64 3, .int .i64 (k : Nat), .int .i64 (z : Nat)] 75)).grown hgrowb (by simp; omega) (fun r hr => (hownv.lt r hr).1)⟩
                       case measure => omega
                   · obtain rfl : j = xs.length := by omega
                     have HF : Hid (teS P (k + 1) = teS P k) := Lib.hid (HTn.out (by rw [hfu.out, fu_end]))
                     clear hfu
                     go_wp2_with fail
                     go_roundg (P.ns - (k + 1))
                     case rel => exact ⟨k + 1, m + 0, by omega, by go_num, Lib.hid (by rw [HF.out]; have := hm.out; simp; omega), by rw [HF.out]; exact hownv, hbelv⟩
                     case measure => omega
         · have HK := Lib.hid hkk
           have HT : Hid (teS P (k + 1) = teS P k) := Lib.hid (te_no hkk)
           have hV8 := Box.new w4 67 #[.int .i64 (P.st k).kind, .int .i64 (P.st k).var, .int .i64 (P.st k).ex, .slice A3 (P.st k).nc c3, .slice A4 (P.st k).nt c4, .slice A5 (P.st k).ne c5, .int .i64 (P.st k).times, .int .i64 (P.st k).proc]
           obtain ⟨v0, v1, v2, v3, v4, v5, v6, v7, vf⟩ := hV8.eight
           clear hkk hP
           go_wp2_with (first
          | (go_at_call 51
             refine (specHas_any (P.st k) A3 A4 A5 c3 c4 c5 _).mono ?_
             rintro e5 w5 ⟨r, rfl, hr, hb5⟩
             obtain rfl : r = false := by cases r with | false => rfl | true => exact absurd (hr.out.1 rfl) HK.out
             have hbel5 := (hbel.alloc hbel.size (.cells #[.int .i64 (P.st k).kind, .int .i64 (P.st k).var, .int .i64 (P.st k).ex, .slice A3 (P.st k).nc c3, .slice A4 (P.st k).nt c4, .slice A5 (P.st k).ne c5, .int .i64 (P.st k).times, .int .i64 (P.st k).proc] 67)).trans (hb5.mono (hbel.alloc hbel.size (.cells #[.int .i64 (P.st k).kind, .int .i64 (P.st k).var, .int .i64 (P.st k).ex, .slice A3 (P.st k).nc c3, .slice A4 (P.st k).nt c4, .slice A5 (P.st k).ne c5, .int .i64 (P.st k).times, .int .i64 (P.st k).proc] 67)).size)
             have hV5 := hV8.below hb5 hV8.lt
             have hown5 := own_stay (hown.alloc (.cells #[.int .i64 (P.st k).kind, .int .i64 (P.st k).var, .int .i64 (P.st k).ex, .slice A3 (P.st k).nc c3, .slice A4 (P.st k).nt c4, .slice A5 (P.st k).ne c5, .int .i64 (P.st k).times, .int .i64 (P.st k).proc] 67)) hb5 (Nat.le_refl _)
             clear hr hb5 v0 v1 v2 v3 v4 v5 v6 v7 vf q0 q1 q2 q3 q4 q5 qf
             have hP5 := hP3.below hbel5 hP3.lt
             obtain ⟨v0, v1, v2, v3, v4, v5, v6, v7, vf⟩ := hV5.eight
             obtain ⟨q0, q1, q2, q3, q4, q5, qf⟩ := hP5.six))
           go_roundg (gk - 1)
           case rel => exact ⟨k + 1, m, by omega, by go_num, Lib.hid (by rw [HT.out]; exact hm.out), by rw [HT.out]; exact hown5, hbel5⟩
           case measure => omega
       · obtain rfl : k = P.ns := by omega
         rcases hown.2 with ⟨rfl, h0⟩ | ⟨g, cap, cur, rfl, h5⟩
         · go_wp2_with fail
           go_ret2
           exact ⟨none, 0, 0, rfl, by rw [hm.out]; omega, fun h => by have := hm.out; omega, hB⟩
         · have hA := (LsAt.of_own3 hown).2
           go_wp2_with fail
           go_ret2
           exact ⟨_, cap, m, rfl, hm.out.symm, hA.low hB3.size, hB⟩

end Go.Proofs.YtdeilceakhgjlaaGreat
/-
  TypeErrors: both sides. (Written by gen_pgte.py.)
-/
namespace Go.Proofs.YtdeilceakhgjlaaGreat
open Go.RowKit Num

open Classical in
/-- The answer. -/
noncomputable def teL (P : Prg) : List Int := if PgOk P then teS P P.ns else []
open Classical in
noncomputable def teK (P : Prg) : Bool := if PgOk P then true else false
noncomputable def teN (P : Prg) : Nat := (teL P).length / 3
noncomputable def teF (P : Prg) : Nat → Int := fun j => (teL P).getD j 0
theorem te_mul (P : Prg) : teN P * 3 = (teL P).length := by
  unfold teN teL
  split
  · obtain ⟨n, h1, _⟩ := te_len P P.ns
    rw [h1]
    omega
  · rfl
theorem teN_le (P : Prg) : teN P ≤ 1000 := by
  unfold teN teL
  split
  · next h =>
    obtain ⟨n, h1, h2⟩ := te_len P P.ns
    have := h.2.2.2.1
    rw [h1]
    omega
  · exact Nat.zero_le _

theorem implTe_any (lo : Nat) (P : Prg) (Av Ax As Ap Ab : Option Addr) (cv cx cs cp cb : Nat) (w : World) (hs : P.small) (hcx : P.nx ≤ cx) (h : PgAt lo w Av Ax As Ap Ab P) :
    Calls Tryz.prog 16 #[.agg #[.slice Av P.nv cv, .slice Ax P.nx cx, .slice As P.ns cs, .slice Ap P.np cp, .slice Ab P.nb cb, .int .i64 P.fuel]] w fun e w' => ∃ A c, e = .returned (.tuple #[.slice A (teN P) c, .bool (teK P)]) ∧ IntsAt w.heap.size w' A (teN P * 3) (teF P) ∧ Below w.heap.size w w' := by
  by_cases F0 : PgOk P
  · refine (implTe_any2 lo P Av Ax As Ap Ab cv cx cs cp cb w hs hcx h F0).mono ?_
    rintro e w' ⟨A, c, n, rfl, hn, hl, hb⟩
    have e1 : teL P = teS P P.ns := if_pos F0
    have e2 : n = teN P := by unfold teN; rw [e1, ← hn]; omega
    have e3 : teK P = true := if_pos F0
    refine ⟨A, c, by rw [← e2, e3], ?_, hb⟩
    show IntsAt w.heap.size w' A (teN P * 3) (fun j => (teL P).getD j 0)
    rw [te_mul, e1]
    exact hl
  · refine (implTe_any1 lo P Av Ax As Ap Ab cv cx cs cp cb w hs h F0).mono ?_
    rintro e w' ⟨rfl, hb⟩
    have e1 : teL P = [] := if_neg F0
    have e2 : teN P = 0 := by unfold teN; rw [e1]; rfl
    have e3 : teK P = false := if_neg F0
    refine ⟨none, 0, by rw [e2, e3], fun h => ?_, hb⟩
    rw [e2] at h
    omega

theorem specTe_any (lo : Nat) (P : Prg) (Av Ax As Ap Ab : Option Addr) (cv cx cs cp cb : Nat) (w : World) (hs : P.small) (hcv : P.nv ≤ cv) (hcp : P.np ≤ cp) (h : PgAt lo w Av Ax As Ap Ab P) :
    Calls Tryz.prog 14 #[.agg #[.slice Av P.nv cv, .slice Ax P.nx cx, .slice As P.ns cs, .slice Ap P.np cp, .slice Ab P.nb cb, .int .i64 P.fuel]] w fun e w' => ∃ A c, e = .returned (.tuple #[.slice A (teN P) c, .bool (teK P)]) ∧ IntsAt w.heap.size w' A (teN P * 3) (teF P) ∧ Below w.heap.size w w' := by
  by_cases F0 : PgOk P
  · refine (specTe_any2 lo P Av Ax As Ap Ab cv cx cs cp cb w hs hcv hcp h F0).mono ?_
    rintro e w' ⟨A, c, n, rfl, hn, hl, hb⟩
    have e1 : teL P = teS P P.ns := if_pos F0
    have e2 : n = teN P := by unfold teN; rw [e1, ← hn]; omega
    have e3 : teK P = true := if_pos F0
    refine ⟨A, c, by rw [← e2, e3], ?_, hb⟩
    show IntsAt w.heap.size w' A (teN P * 3) (fun j => (teL P).getD j 0)
    rw [te_mul, e1]
    exact hl
  · refine (specTe_any1 lo P Av Ax As Ap Ab cv cx cs cp cb w hs hcv hcp h F0).mono ?_
    rintro e w' ⟨rfl, hb⟩
    have e1 : teL P = [] := if_neg F0
    have e2 : teN P = 0 := by unfold teN; rw [e1]; rfl
    have e3 : teK P = false := if_neg F0
    refine ⟨none, 0, by rw [e2, e3], fun h => ?_, hb⟩
    rw [e2] at h
    omega

end Go.Proofs.YtdeilceakhgjlaaGreat
