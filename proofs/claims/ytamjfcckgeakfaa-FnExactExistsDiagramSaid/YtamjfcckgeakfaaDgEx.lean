/-
  ExistsDiagram: both sides.
-/
import Derived.Test.YtamjfcckgeakfaaDgCbA
import Derived.Test.YtamjfcckgeakfaaDgFi
import Derived.Test.YtamjfcckgeakfaaDgAn
namespace Go.Proofs.Ytamjfcckgeakfaa
open Go.RowKit Num

noncomputable def exO (L ro v : Int) (n : Nat) (f : Nat → Int) : Bool := vaB L ro n f && (decide (0 ≤ v) && decide (v < L))
/-- The diagram of the disjunction of two restrictions. -/
noncomputable def exD (Ln v rn n : Nat) (f : Nat → Int) : Nat × List Dg.Nd := Dg.bld (fun j => opB 2 (Dg.evT (ndl n f) Ln rn (Dg.fx (Ln - 1 - v) false j)) (Dg.evT (ndl n f) Ln rn (Dg.fx (Ln - 1 - v) true j))) Ln Ln 0 []

/-- What is built out of nothing: a diagram, and the function it had. -/
theorem bld_new0 (T : Nat → Bool) {L : Nat} (hL : L ≤ 10) : Dg.Shp L (Dg.bld T L L 0 []).2 ∧ (Dg.bld T L L 0 []).1 < (Dg.bld T L L 0 []).2.length + 2 ∧ (Dg.bld T L L 0 []).2.length ≤ 1048576 ∧ ∀ j, j / 2 ^ L = 0 → Dg.evT (Dg.bld T L L 0 []).2 L (Dg.bld T L L 0 []).1 j = T j := by
  have h0 : Dg.Shp L [] := fun k hk => absurd hk (by simp)
  have h1 : Dg.Red [] := fun k hk => absurd hk (by simp)
  obtain ⟨a, b⟩ := Dg.bld_good T L L 0 [] (Nat.le_refl _) h0 h1 List.nodup_nil
  have m := (Dg.bld_made T L L 0 [] (Nat.le_refl _) List.nodup_nil h1 h0.clo).ref
  have hpw : 2 ^ L ≤ 1024 := Nat.le_trans (Nat.pow_le_pow_right (by omega) hL) (by decide)
  have hl := bld_len T L L 0 []
  rw [List.length_nil] at hl
  refine ⟨a, m, by omega, fun j hj => ?_⟩
  rw [b j hj, ev_all a m]
theorem rsD_ok {L : Nat} (hL : L ≤ 10) (v : Nat) (val : Bool) (rn n : Nat) (f : Nat → Int) : Dg.Shp L (rsD L v val rn n f).2 ∧ (rsD L v val rn n f).1 < (rsD L v val rn n f).2.length + 2 ∧ (rsD L v val rn n f).2.length ≤ 1048576 :=
  have h := bld_new0 (fun j => Dg.evT (ndl n f) L rn (Dg.fx (L - 1 - v) val j)) hL
  ⟨h.1, h.2.1, h.2.2.1⟩
theorem exD_of {L v rn n : Nat} {f : Nat → Int} (hL : L ≤ 10) : cbD 2 L (rsD L v false rn n f).1 (rsD L v false rn n f).2.length (nf (rsD L v false rn n f).2) (rsD L v true rn n f).1 (rsD L v true rn n f).2.length (nf (rsD L v true rn n f).2) = exD L v rn n f := by
  unfold cbD exD
  refine Dg.bld_congr L L 0 [] fun j hj => ?_
  rw [ndl_nf, ndl_nf]
  have e0 := (bld_new0 (fun j => Dg.evT (ndl n f) L rn (Dg.fx (L - 1 - v) false j)) hL).2.2.2 j hj
  have e1 := (bld_new0 (fun j => Dg.evT (ndl n f) L rn (Dg.fx (L - 1 - v) true j)) hL).2.2.2 j hj
  unfold rsD
  rw [e0, e1]
  rfl

set_option maxRecDepth 100000 in
set_option maxHeartbeats 6400000 in
theorem specEx_any (lo : Nat) (L ro v : Int) (n c : Nat) (A0 : Option Addr) (f : Nat → Int) (w : World) (hn : n ≤ 1048576) (h0 : IntsAt lo w A0 (n * 3) f) :
    Calls Try.prog 20 #[dgV L A0 n c ro, .int .i64 v] w (AnPost (exO L ro v n f) L (exD L.toNat v.toNat ro.toNat n f) w) := by
  have hP := (Box.new w 28 #[.int .i64 L, .slice A0 n c, .int .i64 ro]).alloc (.cells #[.int .i64 0, .slice none 0 0, .int .i64 0] 28)
  have hB := ((Below.refl w.heap.size w).alloc (Nat.le_refl _) (.cells #[.int .i64 L, .slice A0 n c, .int .i64 ro] 28)).alloc (by simp) (.cells #[.int .i64 0, .slice none 0 0, .int .i64 0] 28)
  have hR := Box.new (w.alloc (.cells #[.int .i64 L, .slice A0 n c, .int .i64 ro] 28)) 28 #[.int .i64 0, .slice none 0 0, .int .i64 0]
  rw [show (w.alloc (.cells #[.int .i64 L, .slice A0 n c, .int .i64 ro] 28)).heap.size = w.heap.size + 1 by simp] at hR
  obtain ⟨q0, q1, q2⟩ := hP.trio
  obtain ⟨r0, r1, r2, F0, F1, F2⟩ := hR.three
  have H0 := Lib.hid h0; clear h0
  have CG : Hid (∀ W, Below w.heap.size w W → _) := Lib.hid fun W hW => specGdE_any lo L ro n c A0 f W hn (H0.out.below hW (Nat.le_refl _))
  unfold exO
  cases hv : vaB L ro n f with
  | false =>
    rw [hv] at CG
    rw [Bool.false_and]
    clear hv
    go_enter Try.func20, Try.ntmps20
    go_upto_region 2 with (first
      | (go_at_call 39
         refine (CG.out _ hB).mono ?_
         rintro e w1 ⟨rfl, hb⟩
         clear q0 q1 q2 r0 r1 r2 F0 F1 F2
         replace hP := hP.below hb hP.lt
         replace hR := hR.below hb hR.lt
         replace hB := hB.trans (hb.mono hB.size)
         clear hb
         obtain ⟨q0, q1, q2⟩ := hP.trio
         obtain ⟨r0, r1, r2, F0, F1, F2⟩ := hR.three))
    go_wp2_with fail
    have hR2 := hR.dgPut (.int .i64 0) (.slice none 0 0) (.int .i64 0)
    obtain ⟨k0, k1, k2⟩ := hR2.trio
    refine bodyPost_ret (v := .tuple #[dgV 0 none 0 0 0, .bool false]) (by simp [results, Try.results20, go_sem, k0, k1, k2]; done) rfl ?_
    exact AnPost.no (((hB.setCell (p := ⟨w.heap.size + 1, 0, none⟩) (Nat.le_succ _) _).setCell (p := ⟨w.heap.size + 1, 1, none⟩) (Nat.le_succ _) _).setCell (p := ⟨w.heap.size + 1, 2, none⟩) (Nat.le_succ _) _)
  | true =>
    rw [hv] at CG
    rw [Bool.true_and]
    have hvd := (vd_iff L ro n f).1 ((vaB_iff L ro n f).1 hv)
    obtain ⟨⟨hL, h4, hro, hs⟩, _⟩ := hvd
    have CI : Hid (∀ W, Calls Try.prog 40 #[.int .i64 v, .int .i64 0, .int .i64 (L - 1)] W fun e w' => e = .returned (.bool (decide (0 ≤ v) && decide (v < L))) ∧ w' = W) := Lib.hid fun W => (l1In_any v 0 (L - 1) W).mono fun e w' ⟨h1, h2⟩ => ⟨by rw [h1, show decide (v ≤ L - 1) = decide (v < L) by rw [decide_eq_decide]; omega], h2⟩
    have eL : IntKind.i64.wrap (L - 1) = L - 1 := IntWalk.i64_in _ (by omega)
    cases hi : (decide (0 ≤ v) && decide (v < L)) with
    | false =>
      rw [hi] at CI
      clear hi hv
      go_enter Try.func20, Try.ntmps20
      go_upto_region 2 with (first
        | (go_at_call 39
           refine (CG.out _ hB).mono ?_
           rintro e w1 ⟨rfl, hb⟩
           clear q0 q1 q2 r0 r1 r2 F0 F1 F2
           replace hP := hP.below hb hP.lt
           replace hR := hR.below hb hR.lt
           replace hB := hB.trans (hb.mono hB.size)
           clear hb
           obtain ⟨q0, q1, q2⟩ := hP.trio
           obtain ⟨r0, r1, r2, F0, F1, F2⟩ := hR.three)
        | (go_at_call 40; refine (CI.out _).mono ?_; rintro e w2 ⟨rfl, h2⟩; obtain rfl := h2.symm; clear h2))
      go_wp2_with fail
      have hR2 := hR.dgPut (.int .i64 0) (.slice none 0 0) (.int .i64 0)
      obtain ⟨k0, k1, k2⟩ := hR2.trio
      refine bodyPost_ret (v := .tuple #[dgV 0 none 0 0 0, .bool false]) (by simp [results, Try.results20, go_sem, k0, k1, k2]; done) rfl ?_
      exact AnPost.no (((hB.setCell (p := ⟨w.heap.size + 1, 0, none⟩) (Nat.le_succ _) _).setCell (p := ⟨w.heap.size + 1, 1, none⟩) (Nat.le_succ _) _).setCell (p := ⟨w.heap.size + 1, 2, none⟩) (Nat.le_succ _) _)
    | true =>
      rw [hi] at CI
      obtain ⟨hv0, hv1⟩ := Bool.and_eq_true_iff.1 hi
      rw [decide_eq_true_eq] at hv0 hv1
      obtain ⟨Ln, rfl⟩ : ∃ Ln : Nat, L = (Ln : Int) := ⟨L.toNat, by omega⟩
      obtain ⟨rn, rfl⟩ : ∃ rn : Nat, ro = (rn : Int) := ⟨ro.toNat, by omega⟩
      obtain ⟨vn, rfl⟩ : ∃ vn : Nat, v = (vn : Int) := ⟨v.toNat, by omega⟩
      simp only [Int.toNat_natCast] at *
      have hr : rn < n + 2 := by omega
      have hsh : Dg.Shp Ln (ndl n f) := by have := hs.shp; rwa [Int.toNat_natCast] at this
      have hpw : 2 ^ Ln ≤ 1024 := Nat.le_trans (Nat.pow_le_pow_right (by omega) (show Ln ≤ 10 by omega)) (by decide)
      have CT : Hid (∀ W, Below w.heap.size w W → _) := Lib.hid fun W hW => specTable_any lo (Ln : Int) rn n c A0 f W hs hL.1 hL.2 hn hr (H0.out.below hW (Nat.le_refl _))
      rw [Int.toNat_natCast, ev_all hsh (by rw [ndl_len]; exact hr)] at CT
      have CF0 : Hid (∀ W, _) := Lib.hid fun W => specFix_any (Dg.evT (ndl n f) Ln rn) Ln vn false W (by omega) (by omega)
      have CF1 : Hid (∀ W, _) := Lib.hid fun W => specFix_any (Dg.evT (ndl n f) Ln rn) Ln vn true W (by omega) (by omega)
      have CJ : Hid (∀ W, _) := Lib.hid fun W => specJoin_any 2 (fun j => Dg.evT (ndl n f) Ln rn (Dg.fx (Ln - 1 - vn) false j)) (fun j => Dg.evT (ndl n f) Ln rn (Dg.fx (Ln - 1 - vn) true j)) (2 ^ Ln) W hpw
      have CO : Hid (∀ W, _) := Lib.hid fun W => specOf_any (fun j => opB 2 (Dg.evT (ndl n f) Ln rn (Dg.fx (Ln - 1 - vn) false j)) (Dg.evT (ndl n f) Ln rn (Dg.fx (Ln - 1 - vn) true j))) (Ln : Int) W hL.1 hL.2
      rw [Int.toNat_natCast, show Dg.bld (fun j => opB 2 (Dg.evT (ndl n f) Ln rn (Dg.fx (Ln - 1 - vn) false j)) (Dg.evT (ndl n f) Ln rn (Dg.fx (Ln - 1 - vn) true j))) Ln Ln 0 [] = exD Ln vn rn n f from rfl] at CO
      generalize exD Ln vn rn n f = D at CO ⊢
      generalize tbS (fun j => opB 2 (Dg.evT (ndl n f) Ln rn (Dg.fx (Ln - 1 - vn) false j)) (Dg.evT (ndl n f) Ln rn (Dg.fx (Ln - 1 - vn) true j))) (2 ^ Ln) = SJ at CO CJ
      generalize tbS (fun j => Dg.evT (ndl n f) Ln rn (Dg.fx (Ln - 1 - vn) false j)) (2 ^ Ln) = S0 at CJ CF0
      generalize tbS (fun j => Dg.evT (ndl n f) Ln rn (Dg.fx (Ln - 1 - vn) true j)) (2 ^ Ln) = S1 at CJ CF1
      generalize tbS (Dg.evT (ndl n f) Ln rn) (2 ^ Ln) = ST at CT CF0 CF1
      clear hi hv hs hsh hpw h4 hro
      go_enter Try.func20, Try.ntmps20
      go_upto_region 4 with (first
        | (go_at_call 39
           refine (CG.out _ hB).mono ?_
           rintro e w1 ⟨rfl, hb⟩
           clear q0 q1 q2 r0 r1 r2 F0 F1 F2
           replace hP := hP.below hb hP.lt
           replace hR := hR.below hb hR.lt
           replace hB := hB.trans (hb.mono hB.size)
           clear hb
           obtain ⟨q0, q1, q2⟩ := hP.trio
           obtain ⟨r0, r1, r2, F0, F1, F2⟩ := hR.three)
        | (go_at_call 40; refine (CI.out _).mono ?_; rintro e w2 ⟨rfl, h2⟩; obtain rfl := h2.symm; clear h2)
        | (go_at_call 43
           refine (CT.out _ hB).mono ?_
           rintro e w2 ⟨rfl, hb⟩
           clear q0 q1 q2 r0 r1 r2 F0 F1 F2
           replace hP := hP.below hb hP.lt
           replace hR := hR.below hb hR.lt
           replace hB := hB.trans (hb.mono hB.size)
           clear hb
           obtain ⟨q0, q1, q2⟩ := hP.trio
           obtain ⟨r0, r1, r2, F0, F1, F2⟩ := hR.three))
      have HK : Hid (AnK w.heap.size (w.heap.size + 1) (Ln : Int) A0 n c (rn : Nat) w w2) := Lib.hid ⟨hP, ⟨_, _, _, hR⟩, hB⟩
      clear q0 q1 q2 r0 r1 r2 F0 F1 F2 hP hR hB CG CI CT
      obtain ⟨q0, q1, q2, r0, r1, r2, F0, F1, F2, _⟩ := HK.out.all
      go_region_held3 (fun w' => w'.cell? ⟨w.heap.size, 0, none⟩ = some (.int .i64 (Ln : Nat)) ∧ w'.cell? ⟨w.heap.size, 1, none⟩ = some (.slice A0 n c) ∧ w'.cell? ⟨w.heap.size, 2, none⟩ = some (.int .i64 (rn : Nat)) ∧ w'.cell? ⟨(w.heap.size + 1), 0, none⟩ = some (cellW w' ⟨(w.heap.size + 1), 0, none⟩) ∧ w'.cell? ⟨(w.heap.size + 1), 1, none⟩ = some (cellW w' ⟨(w.heap.size + 1), 1, none⟩) ∧ w'.cell? ⟨(w.heap.size + 1), 2, none⟩ = some (cellW w' ⟨(w.heap.size + 1), 2, none⟩) ∧ w'.frozen? ⟨(w.heap.size + 1), 0, none⟩ = false ∧ w'.frozen? ⟨(w.heap.size + 1), 1, none⟩ = false ∧ w'.frozen? ⟨(w.heap.size + 1), 2, none⟩ = false ∧ AnK w.heap.size (w.heap.size + 1) (Ln : Int) A0 n c (rn : Nat) w w')
        ((refine AnK.all ?_; first | with_reducible exact HK.out.drew | with_reducible exact held10a (by assumption) | with_reducible exact AnK.by (by assumption) (held10a (by assumption)) | exact AnK.put (held10a (by assumption)) (by omega) (by omega) _ _ _))
        (first
          | (go_at_call 42; (with_reducible refine (CF0.out _).mono ?_); rintro e w3 ⟨rfl, hb3⟩)
          | (go_at_call 42; (with_reducible refine (CF1.out _).mono ?_); rintro e w5 ⟨rfl, hb5⟩)
          | (go_at_call 51; (with_reducible refine (CJ.out _).mono ?_); rintro e w6 ⟨rfl, hb6⟩)
          | (go_at_call 41; (with_reducible refine (CO.out _).mono ?_); rintro e w4 ⟨⟨A4, c4, rfl, hA4⟩, hb4⟩; have HA4 := Lib.hid hA4; clear hA4))
      go_wp2_with fail
      have K2 := AnK.by hb3 HK.out.drew
      have K5 := AnK.by hb5 K2
      have K3 := AnK.by hb6 K5
      obtain ⟨_, _, _, k3⟩ := K3.bR
      have hl3 : w.heap.size + 1 < w6.heap.size := k3.lt
      have K4 := AnK.by hb4 K3
      obtain ⟨_, _, _, kR⟩ := K4.bR
      obtain ⟨k0, k1, k2⟩ := (kR.dgPut (.int .i64 (Ln : Nat)) (.slice A4 D.2.length c4) (.int .i64 (D.1 : Nat))).trio
      refine bodyPost_ret (v := .tuple #[dgV (Ln : Nat) A4 D.2.length c4 (D.1 : Nat), .bool true]) (by simp [results, Try.results20, go_sem, k0, k1, k2]; done) rfl ?_
      exact an_stored HA4.out hl3 (Nat.le_succ _) (K4.put (by omega) (by omega) _ _ _).bel

set_option maxRecDepth 100000 in
set_option maxHeartbeats 6400000 in
theorem implEx_any (lo : Nat) (L ro v : Int) (n c : Nat) (A0 : Option Addr) (f : Nat → Int) (w : World) (hn : n ≤ 1048576) (h0 : IntsAt lo w A0 (n * 3) f) :
    Calls Try.prog 21 #[dgV L A0 n c ro, .int .i64 v] w (AnPost (exO L ro v n f) L (exD L.toNat v.toNat ro.toNat n f) w) := by
  have hP := (Box.new w 28 #[.int .i64 L, .slice A0 n c, .int .i64 ro]).alloc (.cells #[.int .i64 0, .slice none 0 0, .int .i64 0] 28)
  have hB := ((Below.refl w.heap.size w).alloc (Nat.le_refl _) (.cells #[.int .i64 L, .slice A0 n c, .int .i64 ro] 28)).alloc (by simp) (.cells #[.int .i64 0, .slice none 0 0, .int .i64 0] 28)
  have hR := Box.new (w.alloc (.cells #[.int .i64 L, .slice A0 n c, .int .i64 ro] 28)) 28 #[.int .i64 0, .slice none 0 0, .int .i64 0]
  rw [show (w.alloc (.cells #[.int .i64 L, .slice A0 n c, .int .i64 ro] 28)).heap.size = w.heap.size + 1 by simp] at hR
  obtain ⟨q0, q1, q2⟩ := hP.trio
  obtain ⟨r0, r1, r2, F0, F1, F2⟩ := hR.three
  have H0 := Lib.hid h0; clear h0
  have CG : Hid (∀ W, Below w.heap.size w W → _) := Lib.hid fun W hW => implVaE_any lo L ro n c A0 f W hn (H0.out.below hW (Nat.le_refl _))
  unfold exO
  cases hv : vaB L ro n f with
  | false =>
    rw [hv] at CG
    rw [Bool.false_and]
    clear hv
    go_enter Try.func21, Try.ntmps21
    go_upto_region 2 with (first
      | (go_at_call 45
         refine (CG.out _ hB).mono ?_
         rintro e w1 ⟨rfl, hb⟩
         clear q0 q1 q2 r0 r1 r2 F0 F1 F2
         replace hP := hP.below hb hP.lt
         replace hR := hR.below hb hR.lt
         replace hB := hB.trans (hb.mono hB.size)
         clear hb
         obtain ⟨q0, q1, q2⟩ := hP.trio
         obtain ⟨r0, r1, r2, F0, F1, F2⟩ := hR.three))
    go_wp2_with fail
    have hR2 := hR.dgPut (.int .i64 0) (.slice none 0 0) (.int .i64 0)
    obtain ⟨k0, k1, k2⟩ := hR2.trio
    refine bodyPost_ret (v := .tuple #[dgV 0 none 0 0 0, .bool false]) (by simp [results, Try.results21, go_sem, k0, k1, k2]; done) rfl ?_
    exact AnPost.no (((hB.setCell (p := ⟨w.heap.size + 1, 0, none⟩) (Nat.le_succ _) _).setCell (p := ⟨w.heap.size + 1, 1, none⟩) (Nat.le_succ _) _).setCell (p := ⟨w.heap.size + 1, 2, none⟩) (Nat.le_succ _) _)
  | true =>
    rw [hv] at CG
    rw [Bool.true_and]
    have hvd := (vd_iff L ro n f).1 ((vaB_iff L ro n f).1 hv)
    obtain ⟨⟨hL, h4, hro, hs⟩, _⟩ := hvd
    have CI : Hid (∀ W, Calls Try.prog 46 #[.int .i64 v, .int .i64 L] W fun e w' => e = .returned (.bool (decide (0 ≤ v) && decide (v < L))) ∧ w' = W) := Lib.hid fun W => isIndex_any v L W
    have eL : IntKind.i64.wrap (L - 1) = L - 1 := IntWalk.i64_in _ (by omega)
    cases hi : (decide (0 ≤ v) && decide (v < L)) with
    | false =>
      rw [hi] at CI
      clear hi hv
      go_enter Try.func21, Try.ntmps21
      go_upto_region 2 with (first
        | (go_at_call 45
           refine (CG.out _ hB).mono ?_
           rintro e w1 ⟨rfl, hb⟩
           clear q0 q1 q2 r0 r1 r2 F0 F1 F2
           replace hP := hP.below hb hP.lt
           replace hR := hR.below hb hR.lt
           replace hB := hB.trans (hb.mono hB.size)
           clear hb
           obtain ⟨q0, q1, q2⟩ := hP.trio
           obtain ⟨r0, r1, r2, F0, F1, F2⟩ := hR.three)
        | (go_at_call 46; refine (CI.out _).mono ?_; rintro e w2 ⟨rfl, h2⟩; obtain rfl := h2.symm; clear h2))
      go_wp2_with fail
      have hR2 := hR.dgPut (.int .i64 0) (.slice none 0 0) (.int .i64 0)
      obtain ⟨k0, k1, k2⟩ := hR2.trio
      refine bodyPost_ret (v := .tuple #[dgV 0 none 0 0 0, .bool false]) (by simp [results, Try.results21, go_sem, k0, k1, k2]; done) rfl ?_
      exact AnPost.no (((hB.setCell (p := ⟨w.heap.size + 1, 0, none⟩) (Nat.le_succ _) _).setCell (p := ⟨w.heap.size + 1, 1, none⟩) (Nat.le_succ _) _).setCell (p := ⟨w.heap.size + 1, 2, none⟩) (Nat.le_succ _) _)
    | true =>
      rw [hi] at CI
      obtain ⟨hv0, hv1⟩ := Bool.and_eq_true_iff.1 hi
      rw [decide_eq_true_eq] at hv0 hv1
      obtain ⟨Ln, rfl⟩ : ∃ Ln : Nat, L = (Ln : Int) := ⟨L.toNat, by omega⟩
      obtain ⟨rn, rfl⟩ : ∃ rn : Nat, ro = (rn : Int) := ⟨ro.toNat, by omega⟩
      obtain ⟨vn, rfl⟩ : ∃ vn : Nat, v = (vn : Int) := ⟨v.toNat, by omega⟩
      simp only [Int.toNat_natCast] at *
      have hr : rn < n + 2 := by omega
      have CR0 : Hid (∀ W, Below w.heap.size w W → _) := Lib.hid fun W hW => restricted_any lo Ln vn false rn n c A0 f W hs (by omega) hn hr (by omega) (H0.out.below hW (Nat.le_refl _))
      have CR1 : Hid (∀ W, Below w.heap.size w W → _) := Lib.hid fun W hW => restricted_any lo Ln vn true rn n c A0 f W hs (by omega) hn hr (by omega) (H0.out.below hW (Nat.le_refl _))
      have CC : Hid (∀ (lo1 lo2 c1 c2 : Nat) (A1 A2 : Option Addr) (W : World), IntsAt lo1 W A1 ((rsD Ln vn false rn n f).2.length * 3) (nf (rsD Ln vn false rn n f).2) → IntsAt lo2 W A2 ((rsD Ln vn true rn n f).2.length * 3) (nf (rsD Ln vn true rn n f).2) → _) := Lib.hid fun lo1 lo2 c1 c2 A1 A2 W x y =>
        combined_any lo1 lo2 Ln 2 (rsD Ln vn false rn n f).1 (rsD Ln vn true rn n f).1 _ _ c1 c2 A1 A2 _ _ W (shpI_nf (rsD_ok (by omega) vn false rn n f).1) (shpI_nf (rsD_ok (by omega) vn true rn n f).1) (by omega) (rsD_ok (by omega) vn false rn n f).2.2 (rsD_ok (by omega) vn true rn n f).2.2 (rsD_ok (by omega) vn false rn n f).2.1 (rsD_ok (by omega) vn true rn n f).2.1 (by omega) (by omega) x y
      rw [exD_of (by omega), show ((2 : Nat) : Int) = 2 from rfl] at CC
      generalize exD Ln vn rn n f = D at CC ⊢
      generalize rsD Ln vn false rn n f = D0 at CC CR0
      generalize rsD Ln vn true rn n f = D1 at CC CR1
      clear hi hv hs h4 hro
      go_enter Try.func21, Try.ntmps21
      go_upto_region 3 with (first
        | (go_at_call 45
           refine (CG.out _ hB).mono ?_
           rintro e w1 ⟨rfl, hb⟩
           clear q0 q1 q2 r0 r1 r2 F0 F1 F2
           replace hP := hP.below hb hP.lt
           replace hR := hR.below hb hR.lt
           replace hB := hB.trans (hb.mono hB.size)
           clear hb
           obtain ⟨q0, q1, q2⟩ := hP.trio
           obtain ⟨r0, r1, r2, F0, F1, F2⟩ := hR.three)
        | (go_at_call 46; refine (CI.out _).mono ?_; rintro e w2 ⟨rfl, h2⟩; obtain rfl := h2.symm; clear h2))
      have HK : Hid (AnK w.heap.size (w.heap.size + 1) (Ln : Int) A0 n c (rn : Nat) w w1) := Lib.hid ⟨hP, ⟨_, _, _, hR⟩, hB⟩
      clear q0 q1 q2 r0 r1 r2 F0 F1 F2 hP hR hB CG CI
      obtain ⟨q0, q1, q2, r0, r1, r2, F0, F1, F2, _⟩ := HK.out.all
      go_region_held3 (fun w' => w'.cell? ⟨w.heap.size, 0, none⟩ = some (.int .i64 (Ln : Nat)) ∧ w'.cell? ⟨w.heap.size, 1, none⟩ = some (.slice A0 n c) ∧ w'.cell? ⟨w.heap.size, 2, none⟩ = some (.int .i64 (rn : Nat)) ∧ w'.cell? ⟨(w.heap.size + 1), 0, none⟩ = some (cellW w' ⟨(w.heap.size + 1), 0, none⟩) ∧ w'.cell? ⟨(w.heap.size + 1), 1, none⟩ = some (cellW w' ⟨(w.heap.size + 1), 1, none⟩) ∧ w'.cell? ⟨(w.heap.size + 1), 2, none⟩ = some (cellW w' ⟨(w.heap.size + 1), 2, none⟩) ∧ w'.frozen? ⟨(w.heap.size + 1), 0, none⟩ = false ∧ w'.frozen? ⟨(w.heap.size + 1), 1, none⟩ = false ∧ w'.frozen? ⟨(w.heap.size + 1), 2, none⟩ = false ∧ AnK w.heap.size (w.heap.size + 1) (Ln : Int) A0 n c (rn : Nat) w w')
        ((refine AnK.all ?_; first | with_reducible exact HK.out.drew | with_reducible exact held10a (by assumption) | with_reducible exact AnK.by (by assumption) (held10a (by assumption)) | exact AnK.put (held10a (by assumption)) (by omega) (by omega) _ _ _))
        (first
          | (go_at_call 47; (with_reducible refine (CR0.out _ (AnK.bel (held10a (by assumption)))).mono ?_); rintro e w2 ⟨A2, c2, rfl, hI2, hb2⟩; have HI2 := Lib.hid hI2; clear hI2)
          | (go_at_call 47; (with_reducible refine (CR1.out _ (AnK.bel (held10a (by assumption)))).mono ?_); rintro e w3 ⟨A3, c3, rfl, hI3, hb3⟩; have HI3 := Lib.hid hI3; clear hI3)
          | (go_at_call 52; (with_reducible refine (CC.out _ _ _ _ _ _ _ (HI2.out.below hb3 (Nat.le_refl _)) HI3.out).mono ?_); rintro e w4 ⟨A4, c4, rfl, hI4, hb4⟩; have HA4 := Lib.hid hI4; clear hI4))
      go_wp2_with fail
      have K2 := AnK.by hb2 HK.out.drew
      have K3 := AnK.by hb3 K2
      obtain ⟨_, _, _, k3⟩ := K3.bR
      have hl3 : w.heap.size + 1 < w3.heap.size := k3.lt
      have K4 := AnK.by hb4 K3
      obtain ⟨_, _, _, kR⟩ := K4.bR
      obtain ⟨k0, k1, k2⟩ := (kR.dgPut (.int .i64 (Ln : Nat)) (.slice A4 D.2.length c4) (.int .i64 (D.1 : Nat))).trio
      refine bodyPost_ret (v := .tuple #[dgV (Ln : Nat) A4 D.2.length c4 (D.1 : Nat), .bool true]) (by simp [results, Try.results21, go_sem, k0, k1, k2]; done) rfl ?_
      exact an_stored HA4.out hl3 (Nat.le_succ _) (K4.put (by omega) (by omega) _ _ _).bel

end Go.Proofs.Ytamjfcckgeakfaa
