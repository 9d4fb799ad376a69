/-
  The program's division of numbers: quotient and rest.
-/
import Derived.Test.YtdjldhkmcmbiiaaDoorPureM
import Derived.Test.YtdjldhkmcmbiiaaDoorDivStep
import Derived.Test.YtdjldhkmcmbiiaaDoorShift
import Derived.Test.YtdjldhkmcmbiiaaDoorCmpWs
import Derived.Test.YtdjldhkmcmbiiaaDoorWordW
import Derived.Deep.RegionWith
namespace Go.Proofs.YtdjldhkmcmbiiaaDoor
open Go.RowKit Num

/-- A value that lies in no block below B. -/
def Fresh (B : Nat) (v : Value) : Prop := ∀ k, v.ownBlock = some k → B ≤ k

theorem Wide.rowF {w w' : World} {v : Value} {n x : Nat} (h : Wide w w' v n x) : ∃ ys, ys.length = n ∧ Dig WB ys ∧ val WB ys = x ∧ RowF 94 .u64 w' v ys.length (fun j => ys.getD j 0) ∧ v.ownBlock = some w.heap.size := by
  obtain ⟨ys, cap, rfl, h1, h2, h3, h4, h5, h6⟩ := h
  refine ⟨ys, h3, h4, h5, ?_, rfl⟩
  have := h6.rowF (cap := cap) (by omega) h2
  rw [← h3]
  exact this

set_option maxRecDepth 100000 in
set_option maxHeartbeats 800000 in
theorem divNats_less (va vb : Value) (x y : Nat) (w : World) (ha : Nums 94 .u64 WB w va x) (hb : Nums 94 .u64 WB w vb y) (h : x < y) :
    Calls Tryd.prog 73 #[va, vb] w fun e w' => e = .returned (.tuple #[.slice none 0 0, va]) ∧ ∃ nq, w' = w.drewN nq := by
  have e1 : cmpI x y = -1 := by rw [cmpI, if_pos h]
  have c1 := cmpW_any va vb x y w ha hb
  rw [e1] at c1
  obtain ⟨Aa, ca, rfl, _, _, _⟩ := RowF.open ha
  have C1 := Lib.hid c1; clear c1 ha hb h e1
  go_enter Tryd.func73, Tryd.ntmps73
  go_wp2_with (go_at_call 93; refine C1.out.mono ?_; rintro e w' ⟨rfl, nq, rfl⟩)
  go_ret2
  exact ⟨rfl, nq, rfl⟩

set_option maxRecDepth 100000 in
set_option maxHeartbeats 800000 in
theorem divNats_word (va vb : Value) (x y : Nat) (w : World) (ha : Nums 94 .u64 WB w va x) (hb : Nums 94 .u64 WB w vb y) (h : y ≤ x) (hl : ln WB y = 1) (hlx : ln WB x ≤ 549755813888) :
    Calls Tryd.prog 73 #[va, vb] w fun e w' => (∃ v v', e = .returned (.tuple #[v, v']) ∧ Nums 94 .u64 WB w' v (x / y) ∧ Nums 94 .u64 WB w' v' (x % y)) ∧ Below w.heap.size w w' := by
  have h2 := WB_two
  have e1 : 0 ≤ cmpI x y := by rw [cmpI, if_neg (by omega)]; split <;> omega
  obtain ⟨c, hc⟩ : ∃ c, c = cmpI x y := ⟨_, rfl⟩
  have c1 := cmpW_any va vb x y w ha hb
  rw [← hc] at c1 e1
  obtain ⟨Aa, ca, rfl, _, _, _⟩ := RowF.open ha
  obtain ⟨Ab, cb, rfl, _, _, _⟩ := RowF.open hb
  have hyb : y < WB := by have := lt_pow_ln WB y h2; rw [hl] at this; simpa using this
  have hy0 : 0 < y := Nat.pos_of_ne_zero fun e => by rw [e, ln_zero] at hl; omega
  rw [hl] at hb c1 ⊢
  obtain ⟨bb, ob, rfl, hcb⟩ := hb.get hl.symm (show 0 < 1 by omega)
  have hdg : dg WB y 0 = y := by rw [dg_zero WB y h2, Nat.mod_eq_of_lt hyb]
  rw [hdg, Nat.add_zero] at hcb
  have C1 := Lib.hid c1
  have C2 : Hid (∀ nq, Calls Tryd.prog 100 #[.slice Aa (ln WB x) ca, .int .u64 (y : Nat)] (w.drewN nq) fun e w' => (∃ v, e = .returned (.tuple #[v, .int .u64 (x % y : Nat)]) ∧ Nums 94 .u64 WB w' v (x / y)) ∧ Below w.heap.size (w.drewN nq) w') :=
    Lib.hid fun nq => divWord_any _ x y (w.drewN nq) (ha.below (below_drewN nq (Below.refl w.heap.size w)) (Nat.le_refl _)) hy0 hyb (by omega)
  obtain ⟨r, hr⟩ : ∃ r, r = x % y := ⟨_, rfl⟩
  have hrb : r < WB := by rw [hr]; exact Nat.lt_trans (Nat.mod_lt _ hy0) hyb
  rw [← hr] at C2 ⊢
  have Hrb := Lib.hid hrb
  clear c1 ha hb h hc hl hyb hy0 hdg hr hrb
  go_enter Tryd.func73, Tryd.ntmps73
  go_wp2_with (first
    | (go_at_call 93; refine C1.out.mono ?_; rintro e w' ⟨rfl, nq, rfl⟩)
    | (go_at_call 100; refine (C2.out _).mono ?_; rintro e w1 ⟨⟨v1, rfl, hv1⟩, hb1⟩)
    | (go_at_call 87; refine (ofWord_any r Hrb.out _).mono ?_; rintro e w2 ⟨⟨v2, rfl, hv2⟩, hb2⟩))
  go_ret2
  have hb1' : Below w.heap.size w w1 := (below_drewN _ (Below.refl w.heap.size w)).trans hb1
  exact ⟨⟨_, _, rfl, hv1.below hb2 (Nat.le_refl _), hv2⟩, hb1'.trans (hb2.mono hb1'.size)⟩

set_option maxRecDepth 100000 in
set_option maxHeartbeats 400000 in
theorem divNats_big (va vb : Value) (x y m : Nat) (w : World) (ha : Nums 94 .u64 WB w va x) (hb : Nums 94 .u64 WB w vb y) (h : y ≤ x) (hl : ln WB y = m + 2) (hlx : ln WB x ≤ 549755813888) :
    Calls Tryd.prog 73 #[va, vb] w fun e w' => (∃ v v', e = .returned (.tuple #[v, v']) ∧ Nums 94 .u64 WB w' v (x / y) ∧ Nums 94 .u64 WB w' v' (x % y) ∧ Fresh w.heap.size v') ∧ Below w.heap.size w w' := by
  have h2 := WB_two
  have e1 : 0 ≤ cmpI x y := by rw [cmpI, if_neg (by omega)]; split <;> omega
  obtain ⟨c, hc⟩ : ∃ c, c = cmpI x y := ⟨_, rfl⟩
  have c1 := cmpW_any va vb x y w ha hb
  rw [← hc] at c1 e1
  obtain ⟨Aa, ca, rfl, _, _, _⟩ := RowF.open ha
  obtain ⟨Ab, cb, rfl, _, _, _⟩ := RowF.open hb
  have hlxy : ln WB y ≤ ln WB x := ln_mono WB y x h2 h
  obtain ⟨n, hn⟩ : ∃ n, n = ln WB y := ⟨_, rfl⟩
  rw [← hn] at hb c1 hlxy hl ⊢
  obtain ⟨la, hla⟩ : ∃ la, la = ln WB x := ⟨_, rfl⟩
  rw [← hla] at ha c1 hlxy hlx ⊢
  obtain ⟨bb, ob, rfl, hcb⟩ := hb.get hn (show n - 1 < n by omega)
  obtain ⟨tp, htp⟩ : ∃ tp, tp = dg WB y (n - 1) := ⟨_, rfl⟩
  rw [← htp] at hcb
  have hyn : y < WB ^ (n - 1 + 1) := by have := lt_pow_ln WB y h2; rwa [← hn, show n = n - 1 + 1 by omega] at this
  have hyl : WB ^ (n - 1) ≤ y := top_le WB y (n - 1) h2 (by omega)
  have htpv : tp = y / WB ^ (n - 1) := by rw [htp, div_top WB y (n - 1) h2 hyn]
  have htp0 : tp ≠ 0 := by
    have := Nat.div_pos hyl (Nat.pow_pos (n := n - 1) (show 0 < WB by omega))
    omega
  have htpb : tp < WB := by rw [htp]; exact dg_lt _ _ _ h2
  obtain ⟨s, hs⟩ : ∃ s, s = lz tp := ⟨_, rfl⟩
  obtain ⟨hs1, hs2, hs3⟩ := lz_spec tp htp0 htpb
  rw [← hs] at hs1 hs2 hs3
  obtain ⟨D, hD⟩ : ∃ D, D = y * 2 ^ s := ⟨_, rfl⟩
  obtain ⟨X, hX⟩ : ∃ X, X = x * 2 ^ s := ⟨_, rfl⟩
  have hp : 0 < 2 ^ s := Nat.pow_pos (by omega)
  have hDn : D < WB ^ n := by
    have h5 : y < (tp + 1) * WB ^ (n - 1) := by rw [htpv]; exact part_lt WB y (n - 1) h2
    have h6 : (tp + 1) * 2 ^ s ≤ WB := by
      have h7 : (2 : Nat) ^ s ∣ WB := by unfold WB; rw [Step.two_pow_split s (by omega)]; exact Nat.dvd_mul_right _ _
      obtain ⟨k, hk⟩ := h7
      have h8 : tp * 2 ^ s < 2 ^ s * k := by rw [← hk]; exact hs2
      rw [Nat.mul_comm] at h8
      have h9 : tp < k := Nat.lt_of_mul_lt_mul_left h8
      rw [hk, Nat.mul_comm]
      exact Nat.mul_le_mul_left _ h9
    have h10 : y * 2 ^ s < (tp + 1) * WB ^ (n - 1) * 2 ^ s := Nat.mul_lt_mul_of_pos_right h5 hp
    have h11 : (tp + 1) * WB ^ (n - 1) * 2 ^ s = (tp + 1) * 2 ^ s * WB ^ (n - 1) := Nat.mul_right_comm _ _ _
    have h12 : (tp + 1) * 2 ^ s * WB ^ (n - 1) ≤ WB * WB ^ (n - 1) := Nat.mul_le_mul_right _ h6
    have h13 : WB * WB ^ (n - 1) = WB ^ n := by rw [Nat.mul_comm, ← Nat.pow_succ]; congr 1; omega
    rw [hD]; omega
  have hDl : WB ^ (n - 1) ≤ D := by rw [hD]; exact Nat.le_trans hyl (Nat.le_mul_of_pos_right _ hp)
  have hlD : ln WB D = n := by
    have h3 := ln_le_of_lt WB D n h2 hDn
    have h4 := lt_ln_of_le WB D (n - 1) h2 hDl
    omega
  have hD0 : 0 < D := Nat.lt_of_lt_of_le (Nat.pow_pos (by omega)) hDl
  have hsc := Half.scaled (x := x) (y := y) hp
  rw [← hX, ← hD] at hsc
  have hstart : X / WB ^ (la + 1 - n) < D := by
    rw [hX, hD]
    exact start_small (by rw [hla]; exact lt_pow_ln WB x h2) hyl (by omega) rfl hlxy h2
  have hXlen : X < WB ^ (la + 1) := by
    rw [hX, Nat.pow_succ]
    have h5 : x < WB ^ la := by rw [hla]; exact lt_pow_ln WB x h2
    have h6 : 2 ^ s ≤ WB := by
      have : (2 : Nat) ^ s ≤ 2 ^ 64 := Nat.pow_le_pow_right (by omega) (by omega)
      exact this
    exact Nat.lt_of_lt_of_le (Nat.mul_lt_mul_of_pos_right h5 hp) (Nat.mul_le_mul_left _ h6)
  have C1 := Lib.hid c1
  have C2 : Hid (∀ W, Calls Tryd.prog 101 #[.int .u64 tp] W fun e w' => e = .returned (.int .i64 (s : Nat)) ∧ W = w') := Lib.hid fun W => by rw [hs]; exact lz64 tp htpb W
  have HA := Lib.hid ha
  have HBn := Lib.hid hb
  have C3 : Hid (∀ nq, Calls Tryd.prog 103 #[.slice (some ⟨bb, ob, none⟩) n cb, .int .i64 (s : Nat)] (w.drewN nq) fun e w' => (∃ v, e = .returned v ∧ Wide w w' v (n + 1) D) ∧ Below w.heap.size (w.drewN nq) w') :=
    Lib.hid fun nq => by
      have := shl_any (.slice (some ⟨bb, ob, none⟩) n cb) y s (w.drewN nq) (hb.below (below_drewN nq (Below.refl w.heap.size w)) (Nat.le_refl _)) hs1 (by rw [← hn]; omega)
      rw [← hn, ← hD] at this
      exact this
  have HlD := Lib.hid hlD; clear hlD
  have HDn := Lib.hid hDn; clear hDn
  have Hsc := Lib.hid hsc; clear hsc
  have Hstart := Lib.hid hstart; clear hstart
  have HXlen := Lib.hid hXlen; clear hXlen
  have HX := Lib.hid hX; clear hX
  have Hla := Lib.hid hla; clear hla
  have hn2 : 2 ≤ n := by omega
  have Hl := Lib.hid hl; clear hl
  have hs64 := hs1
  clear c1 ha hb h hc hn htp hyn hyl htpv htp0 htpb hs hs2 hs3 hp hDl hD
  obtain ⟨lq, hlqa, hlqb⟩ : ∃ lq, lq + n ≤ la + 1 ∧ la + 1 ≤ lq + n := ⟨la + 1 - n, by omega, by omega⟩
  rw [show la + 1 - n = lq by omega] at Hstart
  obtain ⟨i0, hi, hz0, hz1, hz2⟩ := info_parts Tryd.info_u64p
  go_enter Tryd.func73, Tryd.ntmps73
  go_wp2_with (first
    | (go_at_call 93; refine C1.out.mono ?_; rintro e w' ⟨rfl, nq, rfl⟩)
    | (go_at_call 101; refine (C2.out _).mono ?_; rintro e w' ⟨rfl, rfl⟩))
  refine (C3.out _).mono ?_
  rintro e w1 ⟨⟨v1, rfl, hv1⟩, hb1⟩
  obtain ⟨ys1, hyl1, hyd1, hyv1, hyr1, hyo1⟩ := hv1.rowF
  have hlt1 : w.heap.size < w1.heap.size := by obtain ⟨_, _, _, _, _, _, _, _, h6⟩ := hv1; exact h6.lt
  clear hv1
  obtain ⟨A1, c1, rfl, _, _, _⟩ := RowF.open hyr1
  have Hyr1 := Lib.hid hyr1; clear hyr1
  have Hyl1 := Lib.hid hyl1; clear hyl1
  have Hyv1 := Lib.hid hyv1; clear hyv1
  have Hyo1 := Lib.hid hyo1; clear hyo1
  have hbw1 : Below w.heap.size w w1 := (below_drewN _ (Below.refl w.heap.size w)).trans hb1
  have C5 := Lib.hid (trimW_at (.slice A1 ys1.length c1) ys1 w1 hyd1 Hyr1.out)
  have C6 : Hid (Calls Tryd.prog 103 #[.slice Aa la ca, .int .i64 (s : Nat)] w1 fun e w' => (∃ v, e = .returned v ∧ Wide w1 w' v (la + 1) X) ∧ Below w1.heap.size w1 w') :=
    Lib.hid (by
      have := shl_any (.slice Aa la ca) x s w1 (HA.out.below hbw1 (Nat.le_refl _)) hs64 (by rw [← Hla.out]; omega)
      rw [← Hla.out, ← HX.out] at this
      exact this)
  have Hbw1 := Lib.hid hbw1; clear hbw1 hb1 hyd1
  go_wp2_with fail
  refine C5.out.mono ?_
  rintro e w' ⟨⟨v1', rfl, hv1', ho1'⟩, rfl⟩
  rw [Hyv1.out] at hv1'
  rw [Hyo1.out] at ho1'
  obtain ⟨A2, c2, rfl, _, _, _⟩ := RowF.open hv1'
  rw [HlD.out] at hv1' ho1' ⊢
  have Hv1' := Lib.hid hv1'; clear hv1'
  have Ho1' := Lib.hid ho1'; clear ho1'
  clear C5
  go_wp2_with fail
  refine C6.out.mono ?_
  rintro e w2 ⟨⟨v2, rfl, hv2⟩, hb2⟩
  obtain ⟨rs0, cr, rfl, hcr1, hcr2, hrl, hrd, hrv, hrr⟩ := hv2
  have Hrl := Lib.hid hrl; clear hrl
  have Hrd := Lib.hid hrd; clear hrd
  have Hrv := Lib.hid hrv; clear hrv
  have Hrr := Lib.hid hrr; clear hrr
  clear C6
  have Hb2 := Lib.hid hb2; clear hb2
  unfold maxLen at hcr2
  go_wp2_with (at_make; refine wpList_make_full _ rfl _ _ 45 rfl w2.heap.size 94 i0 (.int .u64 0) 1 Tryd.underlying45 hi hz0 hz1 _ _ _ _ lq rfl rfl (by omega) (by omega) ?b2 ?b3 (Nat.le_refl _) ?_)
  case b2 => rw [hz2]; omega
  case b3 => unfold maxLen; omega
  intro w3 hown3 hgrow3
  have hrow3 := own_rowW (made_own hown3)
  have hb3 : Below w2.heap.size w2 w3 := (Below.refl _ _).grown hgrow3 (Nat.le_refl _) (fun k h => by cases h)
  clear hown3 hgrow3
  have Hrow3 := Lib.hid hrow3; clear hrow3
  have Hb3 := Lib.hid hb3; clear hb3
  obtain ⟨g1, hg1⟩ : ∃ g, g = w1.heap.size := ⟨_, rfl⟩
  obtain ⟨g2, hg2⟩ : ∃ g, g = w2.heap.size := ⟨_, rfl⟩
  have hg12 : g1 < g2 := by rw [hg1, hg2]; exact Hrr.out.lt
  rw [← hg1] at Hrr ⊢
  rw [← hg2] at Hrow3 ⊢
  have Hg1 := Lib.hid hg1; clear hg1
  have Hg2 := Lib.hid hg2; clear hg2
  have HA2 : Hid (w.heap.size < g1) := Lib.hid (by rw [Hg1.out]; exact hlt1)
  clear hlt1
  go_wp2_with fail
  go_loopw [12] (fun i wr => ∃ (k : Nat) (rs qs : List Nat), i = .int .i64 ((k : Int) - 1) ∧ k ≤ lq ∧ rs.length = la + 1 ∧ Dig WB rs ∧ val WB rs = left WB X D k ∧ qs.length = lq ∧ Dig WB qs ∧ val WB (qs.drop k) = X / WB ^ k / D ∧ RowW 94 wr g1 0 rs ∧ RowW 94 wr g2 0 qs ∧ Below g1 w1 wr) (fun i _ => ((intOf i) + 1).toNat)
  case atStart =>
    have e3 : val WB rs0 = left WB X D lq := by
      rw [Hrv.out, left, Nat.mod_eq_of_lt Hstart.out]
      exact (Nat.mod_add_div X (WB ^ lq)).symm
    have hb12 : Below g1 w1 w2 := by rw [Hg1.out]; exact Hb2.out
    have hb23 : Below g1 w2 w3 := Hb3.out.mono (by rw [← Hg2.out]; omega)
    exact ⟨lq, rs0, _, rfl, Nat.le_refl _, Hrl.out, Hrd.out, e3, by simp, rep_dig _, by rw [List.drop_of_length_le (by simp), Nat.div_eq_of_lt Hstart.out]; simp [val], Hrr.out.below Hb3.out (by rw [← Hg2.out]; exact hg12), Hrow3.out, hb12.trans hb23⟩
  case round =>
    clear Hrow3 Hrr Hrl Hrd Hrv Hb2 Hb3 Hstart
    obtain ⟨k, rs, qs, rfl, hkl, hrl, hrd, hrv, hql, hqd, hqv, hrr, hqr, hbel⟩ := hrel
    have Hrl := Lib.hid hrl; clear hrl
    have Hrd := Lib.hid hrd; clear hrd
    have Hrv := Lib.hid hrv; clear hrv
    have Hql := Lib.hid hql; clear hql
    have Hqd := Lib.hid hqd; clear hqd
    have Hqv := Lib.hid hqv; clear hqv
    have Hrr := Lib.hid hrr; clear hrr
    have Hqr := Lib.hid hqr; clear hqr
    have Hbel := Lib.hid hbel; clear hbel
    by_cases hk0 : 1 ≤ k
    · obtain ⟨q, rfl⟩ : ∃ q, k = q + 1 := ⟨k - 1, by omega⟩
      have hq1 : q + (n + 1) ≤ la + 1 := by omega
      have hcrq : ¬ cr = q := by omega
      obtain ⟨ws, hws⟩ : ∃ ws, ws = (rs.drop q).take (n + 1) := ⟨_, rfl⟩
      have hwl : ws.length = n + 1 := by rw [hws, List.length_take, List.length_drop, Hrl.out]; omega
      have hwd : Dig WB ws := by rw [hws]; exact (Hrd.out.drop q).take _
      have hwv := window_val (n := n) h2 hD0 HDn.out rs Hrd.out (by rw [Hrl.out]; omega) Hrv.out
      rw [← hws] at hwv
      obtain ⟨T, hT⟩ : ∃ T, T = X / WB ^ (q + 1) % D * WB + dg WB X q := ⟨_, rfl⟩
      rw [← hT] at hwv
      have hwr : RowW 94 wr g1 q ws := by
        have := Hrr.out.part q (n + 1) (by rw [Hrl.out]; omega)
        rwa [Nat.zero_add, ← hws] at this
      have c7 := divStep_any g1 q (cr - q) n c2 m ws A2 D wr hwr hwd hwl (Hv1'.out.below (B := g1) Hbel.out (Nat.le_of_eq Hg1.out.symm)) HlD.out.symm Hl.out (by rw [Ho1'.out]; have := HA2.out; intro e; injection e with e; omega) (by rw [hwv.1]; exact hwv.2) (by omega)
      rw [hwv.1] at c7
      have C7 := Lib.hid c7; clear c7
      obtain ⟨Z, hZ⟩ : ∃ Z, Z = T / D := ⟨_, rfl⟩
      rw [← hZ] at C7
      have hst := div_next_b WB X D q h2 hD0
      rw [← hT, ← hZ] at hst
      have hZb : Z < WB := by rw [hZ, Nat.div_lt_iff_lt_mul hD0]; exact hwv.2
      have HT := Lib.hid hT
      have Hst := Lib.hid hst
      have HZb := Lib.hid hZb
      clear hws hwl hwd hwv hT hwr hZ hst hZb
      have hne21 : g2 ≠ g1 := by omega
      have hqlt : q < lq := by omega
      go_wp2_with fail
      rw [show q + n + 1 - q = n + 1 by omega]
      refine C7.out.mono ?_
      rintro e w4 ⟨⟨zs, rfl, hzl, hzd, hzv, hzr⟩, hwz⟩
      have hqr4 := Hqr.out.wrote hwz hne21
      have hrr4 := Hrr.out.patch (i := q) (ys := zs) (by rw [hzl, Hrl.out]; omega) (by rw [hzl, Nat.zero_add]; exact hwz) (by rw [Nat.zero_add]; exact hzr)
      have hbel4 : Below g1 w1 w4 := Hbel.out.trans (hwz.below (Nat.le_refl _))
      have hq4 : q < qs.length := by rw [Hql.out]; exact hqlt
      have hcQ : w4.cell? ⟨g2, q, none⟩ = some (.int .u64 (qs.getD q 0 : Nat)) := by have := hqr4.cell (j := q) hq4; rwa [Nat.zero_add] at this
      have hfQ : w4.frozen? ⟨g2, q, none⟩ = false := hqr4.free _
      have hqr5 := hqr4.set q hq4 Z
      rw [Nat.zero_add] at hqr5
      have Hqr5 := Lib.hid hqr5
      have Hrr5 := Lib.hid (hrr4.far (p := ⟨g2, q, none⟩) (fun e => hne21 e.symm) (.int .u64 (Z : Nat)))
      have Hbel5 := Lib.hid (hbel4.setCell (p := ⟨g2, q, none⟩) (Nat.le_of_lt hg12) (.int .u64 (Z : Nat)))
      have hrv5 : val WB (rs.take q ++ zs ++ rs.drop (q + zs.length)) = left WB X D q :=
        left_patch (n := n) h2 hD0 HDn.out rs zs Hrd.out hzd (by rw [Hrl.out]; omega) hzl Hrv.out (by rw [← HT.out]; exact hzv)
      have Hrv5 := Lib.hid hrv5
      have Hrl5 : Hid ((rs.take q ++ zs ++ rs.drop (q + zs.length)).length = la + 1) := Lib.hid (by simp only [List.length_append, List.length_take, List.length_drop, Hrl.out, hzl]; omega)
      have Hrd5 : Hid (Dig WB (rs.take q ++ zs ++ rs.drop (q + zs.length))) := Lib.hid (((Hrd.out.take q).append hzd).append (Hrd.out.drop _))
      have Hqv5 : Hid (val WB ((qs.set q Z).drop q) = X / WB ^ q / D) := Lib.hid (by
        rw [val_drop_step _ _ _ (by rw [List.length_set]; exact hq4), List.getElem_set_self, List.drop_set_of_lt (Nat.lt_add_one _), Hqv.out, Hst.out.1]; exact Nat.add_comm _ _)
      clear hqr4 hrr4 hbel4 hqr5 hrv5 hzl hzd hzv hzr hwz
      go_wp2_with fail
      go_roundw
      case rel => exact ⟨q, _, _, by go_num, by omega, Hrl5.out, Hrd5.out, Hrv5.out, by rw [List.length_set]; exact Hql.out, Hqd.out.put _ HZb.out, Hqv5.out, Hrr5.out, Hqr5.out, Hbel5.out⟩
      case measure => simp [intOf]
    · obtain rfl : k = 0 := by omega
      have hv0 := Hrv.out
      rw [left, Nat.pow_zero, Nat.mod_one, Nat.one_mul, Nat.zero_add, Nat.div_one] at hv0
      have hq0 := Hqv.out
      rw [List.drop_zero, Nat.pow_zero, Nat.div_one] at hq0
      have hqrow := Hqr.out.rowF (cap := lq) (by rw [Hql.out]; omega) (by unfold maxLen; omega)
      rw [Hql.out] at hqrow
      have hts : val WB (rs.take n) = X % D := by
        rw [val_take WB rs Hrd.out n (by rw [Hrl.out]; omega), hv0, Nat.mod_eq_of_lt (Nat.lt_trans (Nat.mod_lt _ hD0) HDn.out)]
      have htl : (rs.take n).length = n := by rw [List.length_take, Hrl.out]; omega
      have htrow : RowW 94 wr g1 0 (rs.take n) := by
        have := Hrr.out.part 0 n (by rw [Hrl.out]; omega)
        simpa using this
      have htrow2 := htrow.rowF (cap := cr) (by rw [htl]; omega) (by unfold maxLen; omega)
      rw [htl] at htrow2
      have C8 : Hid (∀ W, wr.heap.size ≤ W.heap.size → Below wr.heap.size wr W → Calls Tryd.prog 102 #[.slice (some ⟨g2, 0, none⟩) lq lq] W fun e w' => (∃ v', e = .returned v' ∧ Nums 94 .u64 WB W v' (x / y)) ∧ W = w') :=
        Lib.hid fun W hs hb => by
          have := trimW_any (.slice (some ⟨g2, 0, none⟩) lq lq) qs W Hqd.out (by rw [Hql.out]; exact hqrow.below hb (Nat.le_refl _))
          rw [hq0, Hsc.out.1] at this
          exact this
      have C9 : Hid (∀ W, Below wr.heap.size wr W → Calls Tryd.prog 105 #[.slice (some ⟨g1, 0, none⟩) n cr, .int .i64 (s : Nat)] W fun e w' => (∃ v, e = .returned v ∧ Wide W w' v n (x % y)) ∧ Below W.heap.size W w') :=
        Lib.hid fun W hb => by
          have := shr_any (some ⟨g1, 0, none⟩) n cr (rs.take n) s W (htrow2.below hb (Nat.le_refl _)) (Hrd.out.take n) htl hs64 (by omega)
          rw [hts, Hsc.out.2] at this
          exact this
      clear hv0 hq0 hqrow hts htl htrow htrow2
      have hbelr := Hbw1.out.trans (Hbel.out.mono (by have := HA2.out; omega))
      have Hbelr := Lib.hid hbelr; clear hbelr
      go_wp2_with fail
      have hself : Below wr.heap.size wr wr.drew := (Below.refl _ wr).drew
      have Hself := Lib.hid hself; clear hself
      go_region_with (first
        | (go_at_call_of 102 (Value.slice (some ⟨g2, 0, none⟩) lq lq); refine (C8.out _ (by first | exact Hself.out.size | exact HB5.out.size) (by first | exact Hself.out | exact HB5.out)).mono ?_; rintro e w' ⟨⟨v7, rfl, hv7⟩, rfl⟩; have Hv7 := Lib.hid hv7; clear hv7)
        | (go_at_call 105; refine (C9.out _ Hself.out).mono ?_; rintro e w5 ⟨⟨v5, rfl, hv5⟩, hb5⟩; have HB5 := Lib.hid (below_of_drew hb5); clear hb5; obtain ⟨ys5, h5l, h5d, h5v, h5r, h5o⟩ := hv5.rowF; clear hv5; obtain ⟨A5, c5, rfl, _, _, _⟩ := RowF.open h5r; have H5r := Lib.hid h5r; have H5l := Lib.hid h5l; have H5v := Lib.hid h5v; have H5o := Lib.hid h5o; clear h5r h5l h5v h5o)
        | (go_at_call 102; refine (trimW_at _ ys5 w5 h5d H5r.out).mono ?_; rintro e w' ⟨⟨v8, rfl, hv8, ho8⟩, rfl⟩; have Hv8 := Lib.hid hv8; have Ho8 := Lib.hid ho8; clear hv8 ho8))
      all_goals go_wp2_with fail
      all_goals go_ret2
      all_goals
        have hv8 := Hv8.out
        rw [H5v.out] at hv8
        have ho8 : Fresh w.heap.size v8 := fun k hk => by
          rw [Ho8.out, H5o.out] at hk
          injection hk with hk
          rw [← hk]
          exact Hbelr.out.size
        refine ⟨⟨v7, v8, rfl, ?_, hv8, ho8⟩, Hbelr.out.trans (HB5.out.mono Hbelr.out.size)⟩
        first | exact Hv7.out | exact (show Nums 94 .u64 WB wr v7 (x / y) from Hv7.out).below HB5.out (Nat.le_refl _)

/-- The program's division of numbers. -/
theorem divNats_any (va vb : Value) (x y : Nat) (w : World) (ha : Nums 94 .u64 WB w va x) (hb : Nums 94 .u64 WB w vb y) (hy : 0 < y) (hlx : ln WB x ≤ 549755813888) :
    Calls Tryd.prog 73 #[va, vb] w fun e w' => (∃ v v', e = .returned (.tuple #[v, v']) ∧ Nums 94 .u64 WB w' v (x / y) ∧ Nums 94 .u64 WB w' v' (x % y)) ∧ Below w.heap.size w w' := by
  have h2 := WB_two
  by_cases h : x < y
  · refine (divNats_less va vb x y w ha hb h).mono ?_
    rintro e w' ⟨rfl, nq, rfl⟩
    have hb' := below_drewN nq (Below.refl w.heap.size w)
    refine ⟨⟨_, _, rfl, ?_, ?_⟩, hb'⟩
    · rw [Nat.div_eq_of_lt h]; exact .inl ⟨rfl, rfl⟩
    · rw [Nat.mod_eq_of_lt h]; exact ha.below hb' (Nat.le_refl _)
  · by_cases hl : ln WB y = 1
    · exact divNats_word va vb x y w ha hb (by omega) hl hlx
    · have hl0 : ln WB y ≠ 0 := fun e => by have := (ln_eq_zero WB y h2).1 e; omega
      refine (divNats_big va vb x y (ln WB y - 2) w ha hb (by omega) (by omega) hlx).mono ?_
      rintro e w' ⟨⟨v, v', he, h1, h3, _⟩, hb'⟩
      exact ⟨⟨v, v', he, h1, h3⟩, hb'⟩

end Go.Proofs.YtdjldhkmcmbiiaaDoor
