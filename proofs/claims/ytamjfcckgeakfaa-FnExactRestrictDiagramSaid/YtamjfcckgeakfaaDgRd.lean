/-
  RestrictDiagram: both sides.
-/
import Derived.Test.YtamjfcckgeakfaaDgRt
import Derived.Test.YtamjfcckgeakfaaDgFi
import Derived.Test.YtamjfcckgeakfaaDgAn
namespace Go.Proofs.Ytamjfcckgeakfaa
open Go.RowKit Num

noncomputable def rsO (L ro v : Int) (n : Nat) (f : Nat → Int) : Bool := vaB L ro n f && (decide (0 ≤ v) && decide (v < L))

set_option maxRecDepth 100000 in
set_option maxHeartbeats 6400000 in
theorem specRs_any (lo : Nat) (L ro v : Int) (val : Bool) (n c : Nat) (A0 : Option Addr) (f : Nat → Int) (w : World) (hn : n ≤ 1048576) (h0 : IntsAt lo w A0 (n * 3) f) :
    Calls Try.prog 10 #[dgV L A0 n c ro, .int .i64 v, .bool val] w (AnPost (rsO L ro v n f) L (rsD L.toNat v.toNat val ro.toNat n f) w) := by
  have hP := (Box.new w 28 #[.int .i64 L, .slice A0 n c, .int .i64 ro]).alloc (.cells #[.int .i64 0, .slice none 0 0, .int .i64 0] 28)
  have hB := ((Below.refl w.heap.size w).alloc (Nat.le_refl _) (.cells #[.int .i64 L, .slice A0 n c, .int .i64 ro] 28)).alloc (by simp) (.cells #[.int .i64 0, .slice none 0 0, .int .i64 0] 28)
  have hR := Box.new (w.alloc (.cells #[.int .i64 L, .slice A0 n c, .int .i64 ro] 28)) 28 #[.int .i64 0, .slice none 0 0, .int .i64 0]
  rw [show (w.alloc (.cells #[.int .i64 L, .slice A0 n c, .int .i64 ro] 28)).heap.size = w.heap.size + 1 by simp] at hR
  obtain ⟨q0, q1, q2⟩ := hP.trio
  obtain ⟨r0, r1, r2, F0, F1, F2⟩ := hR.three
  have H0 := Lib.hid h0; clear h0
  have CG : Hid (∀ W, Below w.heap.size w W → _) := Lib.hid fun W hW => specGdE_any lo L ro n c A0 f W hn (H0.out.below hW (Nat.le_refl _))
  unfold rsO
  cases hv : vaB L ro n f with
  | false =>
    rw [hv] at CG
    rw [Bool.false_and]
    clear hv
    go_enter Try.func10, Try.ntmps10
    go_upto_region 2 with (first
      | (go_at_call 39
         refine (CG.out _ hB).mono ?_
         rintro e w1 ⟨rfl, hb⟩
         clear q0 q1 q2 r0 r1 r2 F0 F1 F2
         replace hP := hP.below hb hP.lt
         replace hR := hR.below hb hR.lt
         replace hB := hB.trans (hb.mono hB.size)
         clear hb
         obtain ⟨q0, q1, q2⟩ := hP.trio
         obtain ⟨r0, r1, r2, F0, F1, F2⟩ := hR.three))
    go_wp2_with fail
    have hR2 := hR.dgPut (.int .i64 0) (.slice none 0 0) (.int .i64 0)
    obtain ⟨k0, k1, k2⟩ := hR2.trio
    refine bodyPost_ret (v := .tuple #[dgV 0 none 0 0 0, .bool false]) (by simp [results, Try.results10, go_sem, k0, k1, k2]; done) rfl ?_
    exact AnPost.no (((hB.setCell (p := ⟨w.heap.size + 1, 0, none⟩) (Nat.le_succ _) _).setCell (p := ⟨w.heap.size + 1, 1, none⟩) (Nat.le_succ _) _).setCell (p := ⟨w.heap.size + 1, 2, none⟩) (Nat.le_succ _) _)
  | true =>
    rw [hv] at CG
    rw [Bool.true_and]
    have hvd := (vd_iff L ro n f).1 ((vaB_iff L ro n f).1 hv)
    obtain ⟨⟨hL, h4, hro, hs⟩, _⟩ := hvd
    have CI : Hid (∀ W, Calls Try.prog 40 #[.int .i64 v, .int .i64 0, .int .i64 (L - 1)] W fun e w' => e = .returned (.bool (decide (0 ≤ v) && decide (v < L))) ∧ w' = W) := Lib.hid fun W => (l1In_any v 0 (L - 1) W).mono fun e w' ⟨h1, h2⟩ => ⟨by rw [h1, show decide (v ≤ L - 1) = decide (v < L) by rw [decide_eq_decide]; omega], h2⟩
    have eL : IntKind.i64.wrap (L - 1) = L - 1 := IntWalk.i64_in _ (by omega)
    cases hi : (decide (0 ≤ v) && decide (v < L)) with
    | false =>
      rw [hi] at CI
      clear hi hv
      go_enter Try.func10, Try.ntmps10
      go_upto_region 2 with (first
        | (go_at_call 39
           refine (CG.out _ hB).mono ?_
           rintro e w1 ⟨rfl, hb⟩
           clear q0 q1 q2 r0 r1 r2 F0 F1 F2
           replace hP := hP.below hb hP.lt
           replace hR := hR.below hb hR.lt
           replace hB := hB.trans (hb.mono hB.size)
           clear hb
           obtain ⟨q0, q1, q2⟩ := hP.trio
           obtain ⟨r0, r1, r2, F0, F1, F2⟩ := hR.three)
        | (go_at_call 40; refine (CI.out _).mono ?_; rintro e w2 ⟨rfl, h2⟩; obtain rfl := h2.symm; clear h2))
      go_wp2_with fail
      have hR2 := hR.dgPut (.int .i64 0) (.slice none 0 0) (.int .i64 0)
      obtain ⟨k0, k1, k2⟩ := hR2.trio
      refine bodyPost_ret (v := .tuple #[dgV 0 none 0 0 0, .bool false]) (by simp [results, Try.results10, go_sem, k0, k1, k2]; done) rfl ?_
      exact AnPost.no (((hB.setCell (p := ⟨w.heap.size + 1, 0, none⟩) (Nat.le_succ _) _).setCell (p := ⟨w.heap.size + 1, 1, none⟩) (Nat.le_succ _) _).setCell (p := ⟨w.heap.size + 1, 2, none⟩) (Nat.le_succ _) _)
    | true =>
      rw [hi] at CI
      obtain ⟨hv0, hv1⟩ := Bool.and_eq_true_iff.1 hi
      rw [decide_eq_true_eq] at hv0 hv1
      obtain ⟨Ln, rfl⟩ : ∃ Ln : Nat, L = (Ln : Int) := ⟨L.toNat, by omega⟩
      obtain ⟨rn, rfl⟩ : ∃ rn : Nat, ro = (rn : Int) := ⟨ro.toNat, by omega⟩
      obtain ⟨vn, rfl⟩ : ∃ vn : Nat, v = (vn : Int) := ⟨v.toNat, by omega⟩
      simp only [Int.toNat_natCast] at *
      have hr : rn < n + 2 := by omega
      have hsh : Dg.Shp Ln (ndl n f) := by have := hs.shp; rwa [Int.toNat_natCast] at this
      have hpw : 2 ^ Ln ≤ 1024 := Nat.le_trans (Nat.pow_le_pow_right (by omega) (show Ln ≤ 10 by omega)) (by decide)
      have CT : Hid (∀ W, Below w.heap.size w W → _) := Lib.hid fun W hW => specTable_any lo (Ln : Int) rn n c A0 f W hs hL.1 hL.2 hn hr (H0.out.below hW (Nat.le_refl _))
      rw [Int.toNat_natCast, ev_all hsh (by rw [ndl_len]; exact hr)] at CT
      have CF : Hid (∀ W, _) := Lib.hid fun W => specFix_any (Dg.evT (ndl n f) Ln rn) Ln vn val W (by omega) (by omega)
      have CO : Hid (∀ W, _) := Lib.hid fun W => specOf_any (fun j => Dg.evT (ndl n f) Ln rn (Dg.fx (Ln - 1 - vn) val j)) (Ln : Int) W hL.1 hL.2
      rw [Int.toNat_natCast, show Dg.bld (fun j => Dg.evT (ndl n f) Ln rn (Dg.fx (Ln - 1 - vn) val j)) Ln Ln 0 [] = rsD Ln vn val rn n f from rfl] at CO
      generalize rsD Ln vn val rn n f = D at CO ⊢
      generalize tbS (fun j => Dg.evT (ndl n f) Ln rn (Dg.fx (Ln - 1 - vn) val j)) (2 ^ Ln) = SX at CO CF
      generalize tbS (Dg.evT (ndl n f) Ln rn) (2 ^ Ln) = ST at CT CF
      clear hi hv hs hsh hpw h4 hro
      go_enter Try.func10, Try.ntmps10
      go_upto_region 3 with (first
        | (go_at_call 39
           refine (CG.out _ hB).mono ?_
           rintro e w1 ⟨rfl, hb⟩
           clear q0 q1 q2 r0 r1 r2 F0 F1 F2
           replace hP := hP.below hb hP.lt
           replace hR := hR.below hb hR.lt
           replace hB := hB.trans (hb.mono hB.size)
           clear hb
           obtain ⟨q0, q1, q2⟩ := hP.trio
           obtain ⟨r0, r1, r2, F0, F1, F2⟩ := hR.three)
        | (go_at_call 40; refine (CI.out _).mono ?_; rintro e w2 ⟨rfl, h2⟩; obtain rfl := h2.symm; clear h2))
      have HK : Hid (AnK w.heap.size (w.heap.size + 1) (Ln : Int) A0 n c (rn : Nat) w w1) := Lib.hid ⟨hP, ⟨_, _, _, hR⟩, hB⟩
      clear q0 q1 q2 r0 r1 r2 F0 F1 F2 hP hR hB CG CI
      obtain ⟨q0, q1, q2, r0, r1, r2, F0, F1, F2, _⟩ := HK.out.all
      go_region_held3 (fun w' => w'.cell? ⟨w.heap.size, 0, none⟩ = some (.int .i64 (Ln : Nat)) ∧ w'.cell? ⟨w.heap.size, 1, none⟩ = some (.slice A0 n c) ∧ w'.cell? ⟨w.heap.size, 2, none⟩ = some (.int .i64 (rn : Nat)) ∧ w'.cell? ⟨(w.heap.size + 1), 0, none⟩ = some (cellW w' ⟨(w.heap.size + 1), 0, none⟩) ∧ w'.cell? ⟨(w.heap.size + 1), 1, none⟩ = some (cellW w' ⟨(w.heap.size + 1), 1, none⟩) ∧ w'.cell? ⟨(w.heap.size + 1), 2, none⟩ = some (cellW w' ⟨(w.heap.size + 1), 2, none⟩) ∧ w'.frozen? ⟨(w.heap.size + 1), 0, none⟩ = false ∧ w'.frozen? ⟨(w.heap.size + 1), 1, none⟩ = false ∧ w'.frozen? ⟨(w.heap.size + 1), 2, none⟩ = false ∧ AnK w.heap.size (w.heap.size + 1) (Ln : Int) A0 n c (rn : Nat) w w')
        ((refine AnK.all ?_; first | with_reducible exact HK.out.drew | with_reducible exact held10a (by assumption) | with_reducible exact AnK.by (by assumption) (held10a (by assumption)) | exact AnK.put (held10a (by assumption)) (by omega) (by omega) _ _ _))
        (first
          | (go_at_call 43; (with_reducible refine (CT.out _ (AnK.bel (held10a (by assumption)))).mono ?_); rintro e w2 ⟨rfl, hb2⟩)
          | (go_at_call 42; (with_reducible refine (CF.out _).mono ?_); rintro e w3 ⟨rfl, hb3⟩)
          | (go_at_call 41; (with_reducible refine (CO.out _).mono ?_); rintro e w4 ⟨⟨A4, c4, rfl, hA4⟩, hb4⟩; have HA4 := Lib.hid hA4; clear hA4))
      go_wp2_with fail
      have K2 := AnK.by hb2 HK.out.drew
      have K3 := AnK.by hb3 K2
      obtain ⟨_, _, _, k3⟩ := K3.bR
      have hl3 : w.heap.size + 1 < w3.heap.size := k3.lt
      have K4 := AnK.by hb4 K3
      obtain ⟨_, _, _, kR⟩ := K4.bR
      obtain ⟨k0, k1, k2⟩ := (kR.dgPut (.int .i64 (Ln : Nat)) (.slice A4 D.2.length c4) (.int .i64 (D.1 : Nat))).trio
      refine bodyPost_ret (v := .tuple #[dgV (Ln : Nat) A4 D.2.length c4 (D.1 : Nat), .bool true]) (by simp [results, Try.results10, go_sem, k0, k1, k2]; done) rfl ?_
      exact an_stored HA4.out hl3 (Nat.le_succ _) (K4.put (by omega) (by omega) _ _ _).bel

set_option maxRecDepth 100000 in
set_option maxHeartbeats 6400000 in
theorem implRs_any (lo : Nat) (L ro v : Int) (val : Bool) (n c : Nat) (A0 : Option Addr) (f : Nat → Int) (w : World) (hn : n ≤ 1048576) (h0 : IntsAt lo w A0 (n * 3) f) :
    Calls Try.prog 12 #[dgV L A0 n c ro, .int .i64 v, .bool val] w (AnPost (rsO L ro v n f) L (rsD L.toNat v.toNat val ro.toNat n f) w) := by
  have hP := (Box.new w 28 #[.int .i64 L, .slice A0 n c, .int .i64 ro]).alloc (.cells #[.int .i64 0, .slice none 0 0, .int .i64 0] 28)
  have hB := ((Below.refl w.heap.size w).alloc (Nat.le_refl _) (.cells #[.int .i64 L, .slice A0 n c, .int .i64 ro] 28)).alloc (by simp) (.cells #[.int .i64 0, .slice none 0 0, .int .i64 0] 28)
  have hR := Box.new (w.alloc (.cells #[.int .i64 L, .slice A0 n c, .int .i64 ro] 28)) 28 #[.int .i64 0, .slice none 0 0, .int .i64 0]
  rw [show (w.alloc (.cells #[.int .i64 L, .slice A0 n c, .int .i64 ro] 28)).heap.size = w.heap.size + 1 by simp] at hR
  obtain ⟨q0, q1, q2⟩ := hP.trio
  obtain ⟨r0, r1, r2, F0, F1, F2⟩ := hR.three
  have H0 := Lib.hid h0; clear h0
  have CG : Hid (∀ W, Below w.heap.size w W → _) := Lib.hid fun W hW => implVaE_any lo L ro n c A0 f W hn (H0.out.below hW (Nat.le_refl _))
  unfold rsO
  cases hv : vaB L ro n f with
  | false =>
    rw [hv] at CG
    rw [Bool.false_and]
    clear hv
    go_enter Try.func12, Try.ntmps12
    go_upto_region 2 with (first
      | (go_at_call 45
         refine (CG.out _ hB).mono ?_
         rintro e w1 ⟨rfl, hb⟩
         clear q0 q1 q2 r0 r1 r2 F0 F1 F2
         replace hP := hP.below hb hP.lt
         replace hR := hR.below hb hR.lt
         replace hB := hB.trans (hb.mono hB.size)
         clear hb
         obtain ⟨q0, q1, q2⟩ := hP.trio
         obtain ⟨r0, r1, r2, F0, F1, F2⟩ := hR.three))
    go_wp2_with fail
    have hR2 := hR.dgPut (.int .i64 0) (.slice none 0 0) (.int .i64 0)
    obtain ⟨k0, k1, k2⟩ := hR2.trio
    refine bodyPost_ret (v := .tuple #[dgV 0 none 0 0 0, .bool false]) (by simp [results, Try.results12, go_sem, k0, k1, k2]; done) rfl ?_
    exact AnPost.no (((hB.setCell (p := ⟨w.heap.size + 1, 0, none⟩) (Nat.le_succ _) _).setCell (p := ⟨w.heap.size + 1, 1, none⟩) (Nat.le_succ _) _).setCell (p := ⟨w.heap.size + 1, 2, none⟩) (Nat.le_succ _) _)
  | true =>
    rw [hv] at CG
    rw [Bool.true_and]
    have hvd := (vd_iff L ro n f).1 ((vaB_iff L ro n f).1 hv)
    obtain ⟨⟨hL, h4, hro, hs⟩, _⟩ := hvd
    have CI : Hid (∀ W, Calls Try.prog 46 #[.int .i64 v, .int .i64 L] W fun e w' => e = .returned (.bool (decide (0 ≤ v) && decide (v < L))) ∧ w' = W) := Lib.hid fun W => isIndex_any v L W
    have eL : IntKind.i64.wrap (L - 1) = L - 1 := IntWalk.i64_in _ (by omega)
    cases hi : (decide (0 ≤ v) && decide (v < L)) with
    | false =>
      rw [hi] at CI
      clear hi hv
      go_enter Try.func12, Try.ntmps12
      go_upto_region 2 with (first
        | (go_at_call 45
           refine (CG.out _ hB).mono ?_
           rintro e w1 ⟨rfl, hb⟩
           clear q0 q1 q2 r0 r1 r2 F0 F1 F2
           replace hP := hP.below hb hP.lt
           replace hR := hR.below hb hR.lt
           replace hB := hB.trans (hb.mono hB.size)
           clear hb
           obtain ⟨q0, q1, q2⟩ := hP.trio
           obtain ⟨r0, r1, r2, F0, F1, F2⟩ := hR.three)
        | (go_at_call 46; refine (CI.out _).mono ?_; rintro e w2 ⟨rfl, h2⟩; obtain rfl := h2.symm; clear h2))
      go_wp2_with fail
      have hR2 := hR.dgPut (.int .i64 0) (.slice none 0 0) (.int .i64 0)
      obtain ⟨k0, k1, k2⟩ := hR2.trio
      refine bodyPost_ret (v := .tuple #[dgV 0 none 0 0 0, .bool false]) (by simp [results, Try.results12, go_sem, k0, k1, k2]; done) rfl ?_
      exact AnPost.no (((hB.setCell (p := ⟨w.heap.size + 1, 0, none⟩) (Nat.le_succ _) _).setCell (p := ⟨w.heap.size + 1, 1, none⟩) (Nat.le_succ _) _).setCell (p := ⟨w.heap.size + 1, 2, none⟩) (Nat.le_succ _) _)
    | true =>
      rw [hi] at CI
      obtain ⟨hv0, hv1⟩ := Bool.and_eq_true_iff.1 hi
      rw [decide_eq_true_eq] at hv0 hv1
      obtain ⟨Ln, rfl⟩ : ∃ Ln : Nat, L = (Ln : Int) := ⟨L.toNat, by omega⟩
      obtain ⟨rn, rfl⟩ : ∃ rn : Nat, ro = (rn : Int) := ⟨ro.toNat, by omega⟩
      obtain ⟨vn, rfl⟩ : ∃ vn : Nat, v = (vn : Int) := ⟨v.toNat, by omega⟩
      simp only [Int.toNat_natCast] at *
      have hr : rn < n + 2 := by omega
      have CR : Hid (∀ W, Below w.heap.size w W → _) := Lib.hid fun W hW => restricted_any lo Ln vn val rn n c A0 f W hs (by omega) hn hr (by omega) (H0.out.below hW (Nat.le_refl _))
      generalize rsD Ln vn val rn n f = D at CR ⊢
      clear hi hv hs h4 hro
      go_enter Try.func12, Try.ntmps12
      go_wp2_with (first
        | (go_at_call 45
           refine (CG.out _ hB).mono ?_
           rintro e w1 ⟨rfl, hb⟩
           clear q0 q1 q2 r0 r1 r2 F0 F1 F2
           replace hP := hP.below hb hP.lt
           replace hR := hR.below hb hR.lt
           replace hB := hB.trans (hb.mono hB.size)
           clear hb
           obtain ⟨q0, q1, q2⟩ := hP.trio
           obtain ⟨r0, r1, r2, F0, F1, F2⟩ := hR.three)
        | (go_at_call 46; refine (CI.out _).mono ?_; rintro e w2 ⟨rfl, h2⟩; obtain rfl := h2.symm; clear h2)
        | (go_at_call 47
           refine (CR.out _ hB).mono ?_
           rintro e w3 ⟨A4, c4, rfl, hI4, hb4⟩
           have hl1 : w.heap.size + 1 < w1.heap.size := hR.lt
           have hR3 := hR.below hb4 hR.lt
           have HI4 := Lib.hid hI4
           have HB4 := Lib.hid (hB.trans (hb4.mono hB.size))
           clear q0 q1 q2 r0 r1 r2 F0 F1 F2 hP hR hB hb4 hI4
           obtain ⟨r0, r1, r2, F0, F1, F2⟩ := hR3.three))
      obtain ⟨k0, k1, k2⟩ := (hR3.dgPut (.int .i64 (Ln : Nat)) (.slice A4 D.2.length c4) (.int .i64 (D.1 : Nat))).trio
      refine bodyPost_ret (v := .tuple #[dgV (Ln : Nat) A4 D.2.length c4 (D.1 : Nat), .bool true]) (by simp [results, Try.results12, go_sem, k0, k1, k2]; done) rfl ?_
      exact an_stored HI4.out hl1 (Nat.le_succ _) (((HB4.out.setCell (p := ⟨w.heap.size + 1, 0, none⟩) (Nat.le_succ _) _).setCell (p := ⟨w.heap.size + 1, 1, none⟩) (Nat.le_succ _) _).setCell (p := ⟨w.heap.size + 1, 2, none⟩) (Nat.le_succ _) _)

end Go.Proofs.Ytamjfcckgeakfaa
