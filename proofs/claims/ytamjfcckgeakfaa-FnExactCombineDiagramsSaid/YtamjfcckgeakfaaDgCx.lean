/-
  CombineDiagrams: both sides.
-/
import Derived.Test.YtamjfcckgeakfaaDgCbA
import Derived.Test.YtamjfcckgeakfaaDgAn
namespace Go.Proofs.Ytamjfcckgeakfaa
open Go.RowKit Num

noncomputable def cbO (op L1 r1 : Int) (n1 : Nat) (f1 : Nat → Int) (L2 r2 : Int) (n2 : Nat) (f2 : Nat → Int) : Bool := (decide (1 ≤ op) && decide (op ≤ 3)) && vaB L1 r1 n1 f1 && vaB L2 r2 n2 f2 && decide (L1 = L2)

theorem held12a {p0 p1 p2 p3 p4 p5 p6 p7 p8 p9 p10 p11 K : Prop} (h : p0 ∧ p1 ∧ p2 ∧ p3 ∧ p4 ∧ p5 ∧ p6 ∧ p7 ∧ p8 ∧ p9 ∧ p10 ∧ p11 ∧ K) : K := h.2.2.2.2.2.2.2.2.2.2.2.2
/-- Two arguments' boxes, and the answer's. -/
theorem an_two {P1 P2 G : Nat} {L1 L2 : Int} {A1 A2 : Option Addr} {n1 c1 n2 c2 : Nat} {r1 r2 : Int} {w W : World} (k2 : AnK P2 G L2 A2 n2 c2 r2 w W) (k1 : AnK P1 G L1 A1 n1 c1 r1 w W) :
    W.cell? ⟨P1, 0, none⟩ = some (.int .i64 L1) ∧ W.cell? ⟨P1, 1, none⟩ = some (.slice A1 n1 c1) ∧ W.cell? ⟨P1, 2, none⟩ = some (.int .i64 r1) ∧ W.cell? ⟨P2, 0, none⟩ = some (.int .i64 L2) ∧ W.cell? ⟨P2, 1, none⟩ = some (.slice A2 n2 c2) ∧ W.cell? ⟨P2, 2, none⟩ = some (.int .i64 r2) ∧
    W.cell? ⟨G, 0, none⟩ = some (cellW W ⟨G, 0, none⟩) ∧ W.cell? ⟨G, 1, none⟩ = some (cellW W ⟨G, 1, none⟩) ∧ W.cell? ⟨G, 2, none⟩ = some (cellW W ⟨G, 2, none⟩) ∧
    W.frozen? ⟨G, 0, none⟩ = false ∧ W.frozen? ⟨G, 1, none⟩ = false ∧ W.frozen? ⟨G, 2, none⟩ = false ∧ AnK P2 G L2 A2 n2 c2 r2 w W ∧ AnK P1 G L1 A1 n1 c1 r1 w W := by
  obtain ⟨a0, a1, a2, b0, b1, b2, c0, c1', c2', _⟩ := k1.all
  obtain ⟨x0, x1, x2, _⟩ := k2.all
  exact ⟨a0, a1, a2, x0, x1, x2, b0, b1, b2, c0, c1', c2', k2, k1⟩

set_option maxRecDepth 100000 in
set_option maxHeartbeats 6400000 in
theorem specCb_any (lo1 lo2 : Nat) (op L1 r1 L2 r2 : Int) (n1 n2 c1 c2 : Nat) (A1 A2 : Option Addr) (f1 f2 : Nat → Int) (w : World) (hn1 : n1 ≤ 1048576) (hn2 : n2 ≤ 1048576) (h1 : IntsAt lo1 w A1 (n1 * 3) f1) (h2 : IntsAt lo2 w A2 (n2 * 3) f2) :
    Calls Try.prog 16 #[.int .i64 op, dgV L1 A1 n1 c1 r1, dgV L2 A2 n2 c2 r2] w (AnPost (cbO op L1 r1 n1 f1 L2 r2 n2 f2) L1 (cbD op.toNat L1.toNat r1.toNat n1 f1 r2.toNat n2 f2) w) := by
  have e0 : ∀ (W : World) (o : Obj), (W.alloc o).heap.size = W.heap.size + 1 := fun W o => by simp
  have hP := ((Box.new w 28 #[.int .i64 L1, .slice A1 n1 c1, .int .i64 r1]).alloc (.cells #[.int .i64 L2, .slice A2 n2 c2, .int .i64 r2] 28)).alloc (.cells #[.int .i64 0, .slice none 0 0, .int .i64 0] 28)
  have hQ := (Box.new (w.alloc (.cells #[.int .i64 L1, .slice A1 n1 c1, .int .i64 r1] 28)) 28 #[.int .i64 L2, .slice A2 n2 c2, .int .i64 r2]).alloc (.cells #[.int .i64 0, .slice none 0 0, .int .i64 0] 28)
  have hR := Box.new ((w.alloc (.cells #[.int .i64 L1, .slice A1 n1 c1, .int .i64 r1] 28)).alloc (.cells #[.int .i64 L2, .slice A2 n2 c2, .int .i64 r2] 28)) 28 #[.int .i64 0, .slice none 0 0, .int .i64 0]
  rw [e0] at hQ
  rw [e0, e0] at hR
  have hB := (((Below.refl w.heap.size w).alloc (Nat.le_refl _) (.cells #[.int .i64 L1, .slice A1 n1 c1, .int .i64 r1] 28)).alloc (by simp) (.cells #[.int .i64 L2, .slice A2 n2 c2, .int .i64 r2] 28)).alloc (by simp <;> omega) (.cells #[.int .i64 0, .slice none 0 0, .int .i64 0] 28)
  obtain ⟨q0, q1, q2⟩ := hP.trio
  obtain ⟨p0, p1, p2⟩ := hQ.trio
  obtain ⟨r0, r1', r2', F0, F1, F2⟩ := hR.three
  have H1 := Lib.hid h1
  have H2 := Lib.hid h2
  clear h1 h2 e0
  have CG1 : Hid (∀ W, Below w.heap.size w W → _) := Lib.hid fun W hW => specGdE_any lo1 L1 r1 n1 c1 A1 f1 W hn1 (H1.out.below hW (Nat.le_refl _))
  have CG2 : Hid (∀ W, Below w.heap.size w W → _) := Lib.hid fun W hW => specGdE_any lo2 L2 r2 n2 c2 A2 f2 W hn2 (H2.out.below hW (Nat.le_refl _))
  have CI : Hid (∀ W, Calls Try.prog 40 #[.int .i64 op, .int .i64 1, .int .i64 3] W fun e w' => e = .returned (.bool (decide (1 ≤ op) && decide (op ≤ 3))) ∧ w' = W) := Lib.hid fun W => l1In_any op 1 3 W
  cases hv1 : vaB L1 r1 n1 f1 with
  | false =>
    have hc : cbO op L1 r1 n1 f1 L2 r2 n2 f2 = false := by simp [cbO, hv1]
    rw [hv1] at CG1
    clear hv1
    rw [hc]
    clear hc
    go_enter Try.func16, Try.ntmps16
    go_wp2_with (first
      | (go_at_call 39
         (with_reducible refine (CG1.out _ hB).mono ?_)
         rintro e w1 ⟨rfl, hb⟩
         clear CG1
         clear q0 q1 q2 p0 p1 p2 r0 r1' r2' F0 F1 F2
         replace hP := hP.below hb hP.lt
         replace hQ := hQ.below hb hQ.lt
         replace hR := hR.below hb hR.lt
         replace hB := hB.trans (hb.mono hB.size)
         clear hb
         obtain ⟨q0, q1, q2⟩ := hP.trio
         obtain ⟨p0, p1, p2⟩ := hQ.trio
         obtain ⟨r0, r1', r2', F0, F1, F2⟩ := hR.three)
      | (go_at_call 39
         (with_reducible refine (CG2.out _ hB).mono ?_)
         rintro e w2 ⟨rfl, hb⟩
         clear CG2
         clear q0 q1 q2 p0 p1 p2 r0 r1' r2' F0 F1 F2
         replace hP := hP.below hb hP.lt
         replace hQ := hQ.below hb hQ.lt
         replace hR := hR.below hb hR.lt
         replace hB := hB.trans (hb.mono hB.size)
         clear hb
         obtain ⟨q0, q1, q2⟩ := hP.trio
         obtain ⟨p0, p1, p2⟩ := hQ.trio
         obtain ⟨r0, r1', r2', F0, F1, F2⟩ := hR.three)
      | (go_at_call 40; refine (CI.out _).mono ?_; rintro e w4 ⟨rfl, h2⟩; obtain rfl := h2.symm; clear h2))
    obtain ⟨k0, k1, k2⟩ := (hR.dgPut (.int .i64 0) (.slice none 0 0) (.int .i64 0)).trio
    refine bodyPost_ret (v := .tuple #[dgV 0 none 0 0 0, .bool false]) (by simp [results, Try.results16, go_sem, k0, k1, k2]; done) rfl ?_
    exact AnPost.no (((hB.setCell (p := ⟨w.heap.size + 1 + 1, 0, none⟩) (by show _ ≤ _ + 1 + 1; omega) _).setCell (p := ⟨w.heap.size + 1 + 1, 1, none⟩) (by show _ ≤ _ + 1 + 1; omega) _).setCell (p := ⟨w.heap.size + 1 + 1, 2, none⟩) (by show _ ≤ _ + 1 + 1; omega) _)
  | true =>
    cases hv2 : vaB L2 r2 n2 f2 with
    | false =>
      have hc : cbO op L1 r1 n1 f1 L2 r2 n2 f2 = false := by simp [cbO, hv2]
      rw [hv1] at CG1
      rw [hv2] at CG2
      clear hv1 hv2
      rw [hc]
      clear hc
      go_enter Try.func16, Try.ntmps16
      go_wp2_with (first
        | (go_at_call 39
           (with_reducible refine (CG1.out _ hB).mono ?_)
           rintro e w1 ⟨rfl, hb⟩
           clear CG1
           clear q0 q1 q2 p0 p1 p2 r0 r1' r2' F0 F1 F2
           replace hP := hP.below hb hP.lt
           replace hQ := hQ.below hb hQ.lt
           replace hR := hR.below hb hR.lt
           replace hB := hB.trans (hb.mono hB.size)
           clear hb
           obtain ⟨q0, q1, q2⟩ := hP.trio
           obtain ⟨p0, p1, p2⟩ := hQ.trio
           obtain ⟨r0, r1', r2', F0, F1, F2⟩ := hR.three)
        | (go_at_call 39
           (with_reducible refine (CG2.out _ hB).mono ?_)
           rintro e w2 ⟨rfl, hb⟩
           clear CG2
           clear q0 q1 q2 p0 p1 p2 r0 r1' r2' F0 F1 F2
           replace hP := hP.below hb hP.lt
           replace hQ := hQ.below hb hQ.lt
           replace hR := hR.below hb hR.lt
           replace hB := hB.trans (hb.mono hB.size)
           clear hb
           obtain ⟨q0, q1, q2⟩ := hP.trio
           obtain ⟨p0, p1, p2⟩ := hQ.trio
           obtain ⟨r0, r1', r2', F0, F1, F2⟩ := hR.three)
        | (go_at_call 40; refine (CI.out _).mono ?_; rintro e w4 ⟨rfl, h2⟩; obtain rfl := h2.symm; clear h2))
      obtain ⟨k0, k1, k2⟩ := (hR.dgPut (.int .i64 0) (.slice none 0 0) (.int .i64 0)).trio
      refine bodyPost_ret (v := .tuple #[dgV 0 none 0 0 0, .bool false]) (by simp [results, Try.results16, go_sem, k0, k1, k2]; done) rfl ?_
      exact AnPost.no (((hB.setCell (p := ⟨w.heap.size + 1 + 1, 0, none⟩) (by show _ ≤ _ + 1 + 1; omega) _).setCell (p := ⟨w.heap.size + 1 + 1, 1, none⟩) (by show _ ≤ _ + 1 + 1; omega) _).setCell (p := ⟨w.heap.size + 1 + 1, 2, none⟩) (by show _ ≤ _ + 1 + 1; omega) _)
    | true =>
      by_cases hLL : L1 = L2
      case neg =>
        have hc : cbO op L1 r1 n1 f1 L2 r2 n2 f2 = false := by simp [cbO, hLL]
        have hne : (L1 != L2) = true := bne_iff_ne.2 hLL
        rw [hv1] at CG1
        rw [hv2] at CG2
        clear hv1 hv2
        rw [hc]
        clear hc
        go_enter Try.func16, Try.ntmps16
        go_wp2_with (first
          | (go_at_call 39
             (with_reducible refine (CG1.out _ hB).mono ?_)
             rintro e w1 ⟨rfl, hb⟩
             clear CG1
             clear q0 q1 q2 p0 p1 p2 r0 r1' r2' F0 F1 F2
             replace hP := hP.below hb hP.lt
             replace hQ := hQ.below hb hQ.lt
             replace hR := hR.below hb hR.lt
             replace hB := hB.trans (hb.mono hB.size)
             clear hb
             obtain ⟨q0, q1, q2⟩ := hP.trio
             obtain ⟨p0, p1, p2⟩ := hQ.trio
             obtain ⟨r0, r1', r2', F0, F1, F2⟩ := hR.three)
          | (go_at_call 39
             (with_reducible refine (CG2.out _ hB).mono ?_)
             rintro e w2 ⟨rfl, hb⟩
             clear CG2
             clear q0 q1 q2 p0 p1 p2 r0 r1' r2' F0 F1 F2
             replace hP := hP.below hb hP.lt
             replace hQ := hQ.below hb hQ.lt
             replace hR := hR.below hb hR.lt
             replace hB := hB.trans (hb.mono hB.size)
             clear hb
             obtain ⟨q0, q1, q2⟩ := hP.trio
             obtain ⟨p0, p1, p2⟩ := hQ.trio
             obtain ⟨r0, r1', r2', F0, F1, F2⟩ := hR.three)
          | (go_at_call 40; refine (CI.out _).mono ?_; rintro e w4 ⟨rfl, h2⟩; obtain rfl := h2.symm; clear h2))
        obtain ⟨k0, k1, k2⟩ := (hR.dgPut (.int .i64 0) (.slice none 0 0) (.int .i64 0)).trio
        refine bodyPost_ret (v := .tuple #[dgV 0 none 0 0 0, .bool false]) (by simp [results, Try.results16, go_sem, k0, k1, k2]; done) rfl ?_
        exact AnPost.no (((hB.setCell (p := ⟨w.heap.size + 1 + 1, 0, none⟩) (by show _ ≤ _ + 1 + 1; omega) _).setCell (p := ⟨w.heap.size + 1 + 1, 1, none⟩) (by show _ ≤ _ + 1 + 1; omega) _).setCell (p := ⟨w.heap.size + 1 + 1, 2, none⟩) (by show _ ≤ _ + 1 + 1; omega) _)
      subst hLL
      have nL : (L1 != L1) = false := bne_self_eq_false _
      cases ho : (decide (1 ≤ op) && decide (op ≤ 3)) with
      | false =>
        have hc : cbO op L1 r1 n1 f1 L1 r2 n2 f2 = false := by simp [cbO, ho]
        rw [hv1] at CG1
        rw [hv2] at CG2
        rw [ho] at CI
        clear hv1 hv2 ho
        rw [hc]
        clear hc
        go_enter Try.func16, Try.ntmps16
        go_wp2_with (first
          | (go_at_call 39
             (with_reducible refine (CG1.out _ hB).mono ?_)
             rintro e w1 ⟨rfl, hb⟩
             clear CG1
             clear q0 q1 q2 p0 p1 p2 r0 r1' r2' F0 F1 F2
             replace hP := hP.below hb hP.lt
             replace hQ := hQ.below hb hQ.lt
             replace hR := hR.below hb hR.lt
             replace hB := hB.trans (hb.mono hB.size)
             clear hb
             obtain ⟨q0, q1, q2⟩ := hP.trio
             obtain ⟨p0, p1, p2⟩ := hQ.trio
             obtain ⟨r0, r1', r2', F0, F1, F2⟩ := hR.three)
          | (go_at_call 39
             (with_reducible refine (CG2.out _ hB).mono ?_)
             rintro e w2 ⟨rfl, hb⟩
             clear CG2
             clear q0 q1 q2 p0 p1 p2 r0 r1' r2' F0 F1 F2
             replace hP := hP.below hb hP.lt
             replace hQ := hQ.below hb hQ.lt
             replace hR := hR.below hb hR.lt
             replace hB := hB.trans (hb.mono hB.size)
             clear hb
             obtain ⟨q0, q1, q2⟩ := hP.trio
             obtain ⟨p0, p1, p2⟩ := hQ.trio
             obtain ⟨r0, r1', r2', F0, F1, F2⟩ := hR.three)
          | (go_at_call 40; refine (CI.out _).mono ?_; rintro e w4 ⟨rfl, h2⟩; obtain rfl := h2.symm; clear h2))
        obtain ⟨k0, k1, k2⟩ := (hR.dgPut (.int .i64 0) (.slice none 0 0) (.int .i64 0)).trio
        refine bodyPost_ret (v := .tuple #[dgV 0 none 0 0 0, .bool false]) (by simp [results, Try.results16, go_sem, k0, k1, k2]; done) rfl ?_
        exact AnPost.no (((hB.setCell (p := ⟨w.heap.size + 1 + 1, 0, none⟩) (by show _ ≤ _ + 1 + 1; omega) _).setCell (p := ⟨w.heap.size + 1 + 1, 1, none⟩) (by show _ ≤ _ + 1 + 1; omega) _).setCell (p := ⟨w.heap.size + 1 + 1, 2, none⟩) (by show _ ≤ _ + 1 + 1; omega) _)
      | true =>
      have hc : cbO op L1 r1 n1 f1 L1 r2 n2 f2 = true := by simp [cbO, ho, hv1, hv2]
      rw [hc]
      rw [hv1] at CG1
      rw [hv2] at CG2
      rw [ho] at CI
      obtain ⟨ho1, ho3⟩ := Bool.and_eq_true_iff.1 ho
      rw [decide_eq_true_eq] at ho1 ho3
      clear hc ho
      have hvd1 := (vd_iff L1 r1 n1 f1).1 ((vaB_iff L1 r1 n1 f1).1 hv1)
      have hvd2 := (vd_iff L1 r2 n2 f2).1 ((vaB_iff L1 r2 n2 f2).1 hv2)
      obtain ⟨⟨hL, h41, hro1, hs1⟩, _⟩ := hvd1
      obtain ⟨⟨_, h42, hro2, hs2⟩, _⟩ := hvd2
      obtain ⟨Ln, rfl⟩ : ∃ Ln : Nat, L1 = (Ln : Int) := ⟨L1.toNat, by omega⟩
      obtain ⟨rn1, rfl⟩ : ∃ rn : Nat, r1 = (rn : Int) := ⟨r1.toNat, by omega⟩
      obtain ⟨rn2, rfl⟩ : ∃ rn : Nat, r2 = (rn : Int) := ⟨r2.toNat, by omega⟩
      obtain ⟨on, rfl⟩ : ∃ on : Nat, op = (on : Int) := ⟨op.toNat, by omega⟩
      have hr1 : rn1 < n1 + 2 := by omega
      have hr2 : rn2 < n2 + 2 := by omega
      simp only [Int.toNat_natCast] at *
      have hsh1 : Dg.Shp Ln (ndl n1 f1) := by have := hs1.shp; rwa [Int.toNat_natCast] at this
      have hsh2 : Dg.Shp Ln (ndl n2 f2) := by have := hs2.shp; rwa [Int.toNat_natCast] at this
      have hpw : 2 ^ Ln ≤ 1024 := Nat.le_trans (Nat.pow_le_pow_right (by omega) (show Ln ≤ 10 by omega)) (by decide)
      have CT1 : Hid (∀ W, Below w.heap.size w W → _) := Lib.hid fun W hW => specTable_any lo1 (Ln : Int) rn1 n1 c1 A1 f1 W hs1 hL.1 hL.2 hn1 hr1 (H1.out.below hW (Nat.le_refl _))
      have CT2 : Hid (∀ W, Below w.heap.size w W → _) := Lib.hid fun W hW => specTable_any lo2 (Ln : Int) rn2 n2 c2 A2 f2 W hs2 hL.1 hL.2 hn2 hr2 (H2.out.below hW (Nat.le_refl _))
      rw [Int.toNat_natCast, ev_all hsh1 (by rw [ndl_len]; exact hr1)] at CT1
      rw [Int.toNat_natCast, ev_all hsh2 (by rw [ndl_len]; exact hr2)] at CT2
      have CJ : Hid (∀ W, _) := Lib.hid fun W => specJoin_any (on : Int) (Dg.evT (ndl n1 f1) Ln rn1) (Dg.evT (ndl n2 f2) Ln rn2) (2 ^ Ln) W hpw
      have CO : Hid (∀ W, _) := Lib.hid fun W => specOf_any (fun j => opB (on : Int) (Dg.evT (ndl n1 f1) Ln rn1 j) (Dg.evT (ndl n2 f2) Ln rn2 j)) (Ln : Int) W hL.1 hL.2
      rw [Int.toNat_natCast, show Dg.bld (fun j => opB (on : Int) (Dg.evT (ndl n1 f1) Ln rn1 j) (Dg.evT (ndl n2 f2) Ln rn2 j)) Ln Ln 0 [] = cbD on Ln rn1 n1 f1 rn2 n2 f2 from rfl] at CO
      generalize cbD on Ln rn1 n1 f1 rn2 n2 f2 = D at CO ⊢
      generalize tbS (fun j => opB (on : Int) (Dg.evT (ndl n1 f1) Ln rn1 j) (Dg.evT (ndl n2 f2) Ln rn2 j)) (2 ^ Ln) = SJ at CO CJ
      generalize tbS (Dg.evT (ndl n1 f1) Ln rn1) (2 ^ Ln) = S1 at CT1 CJ
      generalize tbS (Dg.evT (ndl n2 f2) Ln rn2) (2 ^ Ln) = S2 at CT2 CJ
      clear hv1 hv2 hs1 hs2 hsh1 hsh2 hpw h41 h42 hro1 hro2
      go_enter Try.func16, Try.ntmps16
      go_upto_region 3 with (first
        | (go_at_call 39
           (with_reducible refine (CG1.out _ hB).mono ?_)
           rintro e w1 ⟨rfl, hb⟩
           clear CG1
           clear q0 q1 q2 p0 p1 p2 r0 r1' r2' F0 F1 F2
           replace hP := hP.below hb hP.lt
           replace hQ := hQ.below hb hQ.lt
           replace hR := hR.below hb hR.lt
           replace hB := hB.trans (hb.mono hB.size)
           clear hb
           obtain ⟨q0, q1, q2⟩ := hP.trio
           obtain ⟨p0, p1, p2⟩ := hQ.trio
           obtain ⟨r0, r1', r2', F0, F1, F2⟩ := hR.three)
        | (go_at_call 39
           (with_reducible refine (CG2.out _ hB).mono ?_)
           rintro e w2 ⟨rfl, hb⟩
           clear CG2
           clear q0 q1 q2 p0 p1 p2 r0 r1' r2' F0 F1 F2
           replace hP := hP.below hb hP.lt
           replace hQ := hQ.below hb hQ.lt
           replace hR := hR.below hb hR.lt
           replace hB := hB.trans (hb.mono hB.size)
           clear hb
           obtain ⟨q0, q1, q2⟩ := hP.trio
           obtain ⟨p0, p1, p2⟩ := hQ.trio
           obtain ⟨r0, r1', r2', F0, F1, F2⟩ := hR.three)
        | (go_at_call 40; refine (CI.out _).mono ?_; rintro e w4 ⟨rfl, h2⟩; obtain rfl := h2.symm; clear h2))
      have HK : Hid (AnK (w.heap.size + 1) (w.heap.size + 1 + 1) (Ln : Int) A2 n2 c2 (rn2 : Nat) w w2 ∧ AnK w.heap.size (w.heap.size + 1 + 1) (Ln : Int) A1 n1 c1 (rn1 : Nat) w w2) := Lib.hid ⟨⟨hQ, ⟨_, _, _, hR⟩, hB⟩, ⟨hP, ⟨_, _, _, hR⟩, hB⟩⟩
      clear q0 q1 q2 p0 p1 p2 r0 r1' r2' F0 F1 F2 hP hQ hR hB CI
      obtain ⟨q0, q1, q2, p0, p1, p2, r0, r1', r2', F0, F1, F2, _⟩ := an_two HK.out.1 HK.out.2
      go_region_held3 (fun w' => w'.cell? ⟨w.heap.size, 0, none⟩ = some (.int .i64 (Ln : Nat)) ∧ w'.cell? ⟨w.heap.size, 1, none⟩ = some (.slice A1 n1 c1) ∧ w'.cell? ⟨w.heap.size, 2, none⟩ = some (.int .i64 (rn1 : Nat)) ∧ w'.cell? ⟨w.heap.size + 1, 0, none⟩ = some (.int .i64 (Ln : Nat)) ∧ w'.cell? ⟨w.heap.size + 1, 1, none⟩ = some (.slice A2 n2 c2) ∧ w'.cell? ⟨w.heap.size + 1, 2, none⟩ = some (.int .i64 (rn2 : Nat)) ∧ w'.cell? ⟨(w.heap.size + 1 + 1), 0, none⟩ = some (cellW w' ⟨(w.heap.size + 1 + 1), 0, none⟩) ∧ w'.cell? ⟨(w.heap.size + 1 + 1), 1, none⟩ = some (cellW w' ⟨(w.heap.size + 1 + 1), 1, none⟩) ∧ w'.cell? ⟨(w.heap.size + 1 + 1), 2, none⟩ = some (cellW w' ⟨(w.heap.size + 1 + 1), 2, none⟩) ∧ w'.frozen? ⟨(w.heap.size + 1 + 1), 0, none⟩ = false ∧ w'.frozen? ⟨(w.heap.size + 1 + 1), 1, none⟩ = false ∧ w'.frozen? ⟨(w.heap.size + 1 + 1), 2, none⟩ = false ∧ AnK (w.heap.size + 1) (w.heap.size + 1 + 1) (Ln : Int) A2 n2 c2 (rn2 : Nat) w w' ∧ AnK w.heap.size (w.heap.size + 1 + 1) (Ln : Int) A1 n1 c1 (rn1 : Nat) w w')
        ((refine an_two ?_ ?_; all_goals (first | with_reducible exact HK.out.1.drew | with_reducible exact HK.out.2.drew | with_reducible exact And.left (held12a (by assumption)) | with_reducible exact And.right (held12a (by assumption)) | with_reducible exact AnK.by (by assumption) (And.left (held12a (by assumption))) | with_reducible exact AnK.by (by assumption) (And.right (held12a (by assumption))) | exact AnK.put (And.left (held12a (by assumption))) (by omega) (by omega) _ _ _ | exact AnK.put (And.right (held12a (by assumption))) (by omega) (by omega) _ _ _)))
        (first
          | (go_at_call 43; (with_reducible refine (CT1.out _ (AnK.bel (And.left (held12a (by assumption))))).mono ?_); rintro e w3 ⟨rfl, hb3⟩)
          | (go_at_call 43; (with_reducible refine (CT2.out _ (AnK.bel (And.left (held12a (by assumption))))).mono ?_); rintro e w5 ⟨rfl, hb5⟩)
          | (go_at_call 51; (with_reducible refine (CJ.out _).mono ?_); rintro e w6 ⟨rfl, hb6⟩)
          | (go_at_call 41; (with_reducible refine (CO.out _).mono ?_); rintro e w7 ⟨⟨A4, c4, rfl, hA4⟩, hb4⟩; have HA4 := Lib.hid hA4; clear hA4))
      go_wp2_with fail
      have K2 := AnK.by hb3 HK.out.1.drew
      have K5 := AnK.by hb5 K2
      have K3 := AnK.by hb6 K5
      obtain ⟨_, _, _, k3⟩ := K3.bR
      have hl3 : w.heap.size + 1 + 1 < w6.heap.size := k3.lt
      have K4 := AnK.by hb4 K3
      obtain ⟨_, _, _, kR⟩ := K4.bR
      obtain ⟨k0, k1, k2⟩ := (kR.dgPut (.int .i64 (Ln : Nat)) (.slice A4 D.2.length c4) (.int .i64 (D.1 : Nat))).trio
      refine bodyPost_ret (v := .tuple #[dgV (Ln : Nat) A4 D.2.length c4 (D.1 : Nat), .bool true]) (by simp [results, Try.results16, go_sem, k0, k1, k2]; done) rfl ?_
      exact an_stored HA4.out hl3 (by omega) (K4.put (by omega) (by omega) _ _ _).bel

set_option maxRecDepth 100000 in
set_option maxHeartbeats 6400000 in
theorem implCb_any (lo1 lo2 : Nat) (op L1 r1 L2 r2 : Int) (n1 n2 c1 c2 : Nat) (A1 A2 : Option Addr) (f1 f2 : Nat → Int) (w : World) (hn1 : n1 ≤ 1048576) (hn2 : n2 ≤ 1048576) (h1 : IntsAt lo1 w A1 (n1 * 3) f1) (h2 : IntsAt lo2 w A2 (n2 * 3) f2) :
    Calls Try.prog 17 #[.int .i64 op, dgV L1 A1 n1 c1 r1, dgV L2 A2 n2 c2 r2] w (AnPost (cbO op L1 r1 n1 f1 L2 r2 n2 f2) L1 (cbD op.toNat L1.toNat r1.toNat n1 f1 r2.toNat n2 f2) w) := by
  have e0 : ∀ (W : World) (o : Obj), (W.alloc o).heap.size = W.heap.size + 1 := fun W o => by simp
  have hP := ((Box.new w 28 #[.int .i64 L1, .slice A1 n1 c1, .int .i64 r1]).alloc (.cells #[.int .i64 L2, .slice A2 n2 c2, .int .i64 r2] 28)).alloc (.cells #[.int .i64 0, .slice none 0 0, .int .i64 0] 28)
  have hQ := (Box.new (w.alloc (.cells #[.int .i64 L1, .slice A1 n1 c1, .int .i64 r1] 28)) 28 #[.int .i64 L2, .slice A2 n2 c2, .int .i64 r2]).alloc (.cells #[.int .i64 0, .slice none 0 0, .int .i64 0] 28)
  have hR := Box.new ((w.alloc (.cells #[.int .i64 L1, .slice A1 n1 c1, .int .i64 r1] 28)).alloc (.cells #[.int .i64 L2, .slice A2 n2 c2, .int .i64 r2] 28)) 28 #[.int .i64 0, .slice none 0 0, .int .i64 0]
  rw [e0] at hQ
  rw [e0, e0] at hR
  have hB := (((Below.refl w.heap.size w).alloc (Nat.le_refl _) (.cells #[.int .i64 L1, .slice A1 n1 c1, .int .i64 r1] 28)).alloc (by simp) (.cells #[.int .i64 L2, .slice A2 n2 c2, .int .i64 r2] 28)).alloc (by simp <;> omega) (.cells #[.int .i64 0, .slice none 0 0, .int .i64 0] 28)
  obtain ⟨q0, q1, q2⟩ := hP.trio
  obtain ⟨p0, p1, p2⟩ := hQ.trio
  obtain ⟨r0, r1', r2', F0, F1, F2⟩ := hR.three
  have H1 := Lib.hid h1
  have H2 := Lib.hid h2
  clear h1 h2 e0
  have CG1 : Hid (∀ W, Below w.heap.size w W → _) := Lib.hid fun W hW => implVaE_any lo1 L1 r1 n1 c1 A1 f1 W hn1 (H1.out.below hW (Nat.le_refl _))
  have CG2 : Hid (∀ W, Below w.heap.size w W → _) := Lib.hid fun W hW => implVaE_any lo2 L2 r2 n2 c2 A2 f2 W hn2 (H2.out.below hW (Nat.le_refl _))
  cases d1 : decide (op < 1) with
  | true =>
    have h1' := of_decide_eq_true d1
    have hc : cbO op L1 r1 n1 f1 L2 r2 n2 f2 = false := by
      have : decide (1 ≤ op) = false := decide_eq_false (by omega)
      simp [cbO, this]
    clear h1' CG1 CG2
    rw [hc]
    clear hc
    go_enter Try.func17, Try.ntmps17
    go_wp2_with fail
    refine bodyPost_ret (v := .tuple #[dgV 0 none 0 0 0, .bool false]) (by simp [results, Try.results17, go_sem]; done) rfl ?_
    exact AnPost.no hB
  | false =>
    cases d3 : decide (3 < op) with
    | true =>
      have h3' := of_decide_eq_true d3
      have hc : cbO op L1 r1 n1 f1 L2 r2 n2 f2 = false := by
        have : decide (op ≤ 3) = false := decide_eq_false (by omega)
        simp [cbO, this]
      clear h3' CG1 CG2
      rw [hc]
      clear hc
      go_enter Try.func17, Try.ntmps17
      go_wp2_with fail
      refine bodyPost_ret (v := .tuple #[dgV 0 none 0 0 0, .bool false]) (by simp [results, Try.results17, go_sem]; done) rfl ?_
      exact AnPost.no hB
    | false =>
    have ho1 : 1 ≤ op := by have := of_decide_eq_false d1; omega
    have ho3 : op ≤ 3 := by have := of_decide_eq_false d3; omega
    have ho : (decide (1 ≤ op) && decide (op ≤ 3)) = true := by rw [decide_eq_true ho1, decide_eq_true ho3]; rfl
    cases hv1 : vaB L1 r1 n1 f1 with
    | false =>
      have hc : cbO op L1 r1 n1 f1 L2 r2 n2 f2 = false := by simp [cbO, hv1]
      rw [hv1] at CG1
      clear hv1 ho ho1 ho3
      rw [hc]
      clear hc
      go_enter Try.func17, Try.ntmps17
      go_wp2_with (first
        | (go_at_call 45
           (with_reducible refine (CG1.out _ hB).mono ?_)
           rintro e w1 ⟨rfl, hb⟩
           clear CG1
           clear q0 q1 q2 p0 p1 p2 r0 r1' r2' F0 F1 F2
           replace hP := hP.below hb hP.lt
           replace hQ := hQ.below hb hQ.lt
           replace hR := hR.below hb hR.lt
           replace hB := hB.trans (hb.mono hB.size)
           clear hb
           obtain ⟨q0, q1, q2⟩ := hP.trio
           obtain ⟨p0, p1, p2⟩ := hQ.trio
           obtain ⟨r0, r1', r2', F0, F1, F2⟩ := hR.three)
        | (go_at_call 45
           (with_reducible refine (CG2.out _ hB).mono ?_)
           rintro e w2 ⟨rfl, hb⟩
           clear CG2
           clear q0 q1 q2 p0 p1 p2 r0 r1' r2' F0 F1 F2
           replace hP := hP.below hb hP.lt
           replace hQ := hQ.below hb hQ.lt
           replace hR := hR.below hb hR.lt
           replace hB := hB.trans (hb.mono hB.size)
           clear hb
           obtain ⟨q0, q1, q2⟩ := hP.trio
           obtain ⟨p0, p1, p2⟩ := hQ.trio
           obtain ⟨r0, r1', r2', F0, F1, F2⟩ := hR.three))
      obtain ⟨k0, k1, k2⟩ := (hR.dgPut (.int .i64 0) (.slice none 0 0) (.int .i64 0)).trio
      refine bodyPost_ret (v := .tuple #[dgV 0 none 0 0 0, .bool false]) (by simp [results, Try.results17, go_sem, k0, k1, k2]; done) rfl ?_
      exact AnPost.no (((hB.setCell (p := ⟨w.heap.size + 1 + 1, 0, none⟩) (by show _ ≤ _ + 1 + 1; omega) _).setCell (p := ⟨w.heap.size + 1 + 1, 1, none⟩) (by show _ ≤ _ + 1 + 1; omega) _).setCell (p := ⟨w.heap.size + 1 + 1, 2, none⟩) (by show _ ≤ _ + 1 + 1; omega) _)
    | true =>
      cases hv2 : vaB L2 r2 n2 f2 with
      | false =>
        have hc : cbO op L1 r1 n1 f1 L2 r2 n2 f2 = false := by simp [cbO, hv2]
        rw [hv1] at CG1
        rw [hv2] at CG2
        clear hv1 hv2 ho ho1 ho3
        rw [hc]
        clear hc
        go_enter Try.func17, Try.ntmps17
        go_wp2_with (first
          | (go_at_call 45
             (with_reducible refine (CG1.out _ hB).mono ?_)
             rintro e w1 ⟨rfl, hb⟩
             clear CG1
             clear q0 q1 q2 p0 p1 p2 r0 r1' r2' F0 F1 F2
             replace hP := hP.below hb hP.lt
             replace hQ := hQ.below hb hQ.lt
             replace hR := hR.below hb hR.lt
             replace hB := hB.trans (hb.mono hB.size)
             clear hb
             obtain ⟨q0, q1, q2⟩ := hP.trio
             obtain ⟨p0, p1, p2⟩ := hQ.trio
             obtain ⟨r0, r1', r2', F0, F1, F2⟩ := hR.three)
          | (go_at_call 45
             (with_reducible refine (CG2.out _ hB).mono ?_)
             rintro e w2 ⟨rfl, hb⟩
             clear CG2
             clear q0 q1 q2 p0 p1 p2 r0 r1' r2' F0 F1 F2
             replace hP := hP.below hb hP.lt
             replace hQ := hQ.below hb hQ.lt
             replace hR := hR.below hb hR.lt
             replace hB := hB.trans (hb.mono hB.size)
             clear hb
             obtain ⟨q0, q1, q2⟩ := hP.trio
             obtain ⟨p0, p1, p2⟩ := hQ.trio
             obtain ⟨r0, r1', r2', F0, F1, F2⟩ := hR.three))
        obtain ⟨k0, k1, k2⟩ := (hR.dgPut (.int .i64 0) (.slice none 0 0) (.int .i64 0)).trio
        refine bodyPost_ret (v := .tuple #[dgV 0 none 0 0 0, .bool false]) (by simp [results, Try.results17, go_sem, k0, k1, k2]; done) rfl ?_
        exact AnPost.no (((hB.setCell (p := ⟨w.heap.size + 1 + 1, 0, none⟩) (by show _ ≤ _ + 1 + 1; omega) _).setCell (p := ⟨w.heap.size + 1 + 1, 1, none⟩) (by show _ ≤ _ + 1 + 1; omega) _).setCell (p := ⟨w.heap.size + 1 + 1, 2, none⟩) (by show _ ≤ _ + 1 + 1; omega) _)
      | true =>
      by_cases hLL : L1 = L2
      case neg =>
        have hc : cbO op L1 r1 n1 f1 L2 r2 n2 f2 = false := by simp [cbO, hLL]
        have hne : (L1 != L2) = true := bne_iff_ne.2 hLL
        rw [hv1] at CG1
        rw [hv2] at CG2
        clear hv1 hv2 ho ho1 ho3
        rw [hc]
        clear hc
        go_enter Try.func17, Try.ntmps17
        go_wp2_with (first
          | (go_at_call 45
             (with_reducible refine (CG1.out _ hB).mono ?_)
             rintro e w1 ⟨rfl, hb⟩
             clear CG1
             clear q0 q1 q2 p0 p1 p2 r0 r1' r2' F0 F1 F2
             replace hP := hP.below hb hP.lt
             replace hQ := hQ.below hb hQ.lt
             replace hR := hR.below hb hR.lt
             replace hB := hB.trans (hb.mono hB.size)
             clear hb
             obtain ⟨q0, q1, q2⟩ := hP.trio
             obtain ⟨p0, p1, p2⟩ := hQ.trio
             obtain ⟨r0, r1', r2', F0, F1, F2⟩ := hR.three)
          | (go_at_call 45
             (with_reducible refine (CG2.out _ hB).mono ?_)
             rintro e w2 ⟨rfl, hb⟩
             clear CG2
             clear q0 q1 q2 p0 p1 p2 r0 r1' r2' F0 F1 F2
             replace hP := hP.below hb hP.lt
             replace hQ := hQ.below hb hQ.lt
             replace hR := hR.below hb hR.lt
             replace hB := hB.trans (hb.mono hB.size)
             clear hb
             obtain ⟨q0, q1, q2⟩ := hP.trio
             obtain ⟨p0, p1, p2⟩ := hQ.trio
             obtain ⟨r0, r1', r2', F0, F1, F2⟩ := hR.three))
        obtain ⟨k0, k1, k2⟩ := (hR.dgPut (.int .i64 0) (.slice none 0 0) (.int .i64 0)).trio
        refine bodyPost_ret (v := .tuple #[dgV 0 none 0 0 0, .bool false]) (by simp [results, Try.results17, go_sem, k0, k1, k2]; done) rfl ?_
        exact AnPost.no (((hB.setCell (p := ⟨w.heap.size + 1 + 1, 0, none⟩) (by show _ ≤ _ + 1 + 1; omega) _).setCell (p := ⟨w.heap.size + 1 + 1, 1, none⟩) (by show _ ≤ _ + 1 + 1; omega) _).setCell (p := ⟨w.heap.size + 1 + 1, 2, none⟩) (by show _ ≤ _ + 1 + 1; omega) _)
      subst hLL
      have nL : (L1 != L1) = false := bne_self_eq_false _
      have hc : cbO op L1 r1 n1 f1 L1 r2 n2 f2 = true := by simp [cbO, ho, hv1, hv2]
      rw [hc]
      rw [hv1] at CG1
      rw [hv2] at CG2
      clear hc ho
      have hvd1 := (vd_iff L1 r1 n1 f1).1 ((vaB_iff L1 r1 n1 f1).1 hv1)
      have hvd2 := (vd_iff L1 r2 n2 f2).1 ((vaB_iff L1 r2 n2 f2).1 hv2)
      obtain ⟨⟨hL, h41, hro1, hs1⟩, _⟩ := hvd1
      obtain ⟨⟨_, h42, hro2, hs2⟩, _⟩ := hvd2
      obtain ⟨Ln, rfl⟩ : ∃ Ln : Nat, L1 = (Ln : Int) := ⟨L1.toNat, by omega⟩
      obtain ⟨rn1, rfl⟩ : ∃ rn : Nat, r1 = (rn : Int) := ⟨r1.toNat, by omega⟩
      obtain ⟨rn2, rfl⟩ : ∃ rn : Nat, r2 = (rn : Int) := ⟨r2.toNat, by omega⟩
      obtain ⟨on, rfl⟩ : ∃ on : Nat, op = (on : Int) := ⟨op.toNat, by omega⟩
      have hr1 : rn1 < n1 + 2 := by omega
      have hr2 : rn2 < n2 + 2 := by omega
      simp only [Int.toNat_natCast] at *
      have CR : Hid (∀ W, Below w.heap.size w W → _) := Lib.hid fun W hW => combined_any lo1 lo2 Ln on rn1 rn2 n1 n2 c1 c2 A1 A2 f1 f2 W hs1 hs2 (by omega) hn1 hn2 hr1 hr2 (by omega) (by omega) (H1.out.below hW (Nat.le_refl _)) (H2.out.below hW (Nat.le_refl _))
      generalize cbD on Ln rn1 n1 f1 rn2 n2 f2 = D at CR ⊢
      clear hv1 hv2 hs1 hs2 h41 h42 hro1 hro2
      go_enter Try.func17, Try.ntmps17
      go_wp2_with (first
        | (go_at_call 45
           (with_reducible refine (CG1.out _ hB).mono ?_)
           rintro e w1 ⟨rfl, hb⟩
           clear CG1
           clear q0 q1 q2 p0 p1 p2 r0 r1' r2' F0 F1 F2
           replace hP := hP.below hb hP.lt
           replace hQ := hQ.below hb hQ.lt
           replace hR := hR.below hb hR.lt
           replace hB := hB.trans (hb.mono hB.size)
           clear hb
           obtain ⟨q0, q1, q2⟩ := hP.trio
           obtain ⟨p0, p1, p2⟩ := hQ.trio
           obtain ⟨r0, r1', r2', F0, F1, F2⟩ := hR.three)
        | (go_at_call 45
           (with_reducible refine (CG2.out _ hB).mono ?_)
           rintro e w2 ⟨rfl, hb⟩
           clear CG2
           clear q0 q1 q2 p0 p1 p2 r0 r1' r2' F0 F1 F2
           replace hP := hP.below hb hP.lt
           replace hQ := hQ.below hb hQ.lt
           replace hR := hR.below hb hR.lt
           replace hB := hB.trans (hb.mono hB.size)
           clear hb
           obtain ⟨q0, q1, q2⟩ := hP.trio
           obtain ⟨p0, p1, p2⟩ := hQ.trio
           obtain ⟨r0, r1', r2', F0, F1, F2⟩ := hR.three)
        | (go_at_call 52
           refine (CR.out _ hB).mono ?_
           rintro e w3 ⟨A4, c4, rfl, hI4, hb4⟩
           have hl1 : w.heap.size + 1 + 1 < w2.heap.size := hR.lt
           have hR3 := hR.below hb4 hR.lt
           have HI4 := Lib.hid hI4
           have HB4 := Lib.hid (hB.trans (hb4.mono hB.size))
           clear q0 q1 q2 p0 p1 p2 r0 r1' r2' F0 F1 F2 hP hQ hR hB hb4 hI4
           obtain ⟨r0, r1', r2', F0, F1, F2⟩ := hR3.three))
      obtain ⟨k0, k1, k2⟩ := (hR3.dgPut (.int .i64 (Ln : Nat)) (.slice A4 D.2.length c4) (.int .i64 (D.1 : Nat))).trio
      refine bodyPost_ret (v := .tuple #[dgV (Ln : Nat) A4 D.2.length c4 (D.1 : Nat), .bool true]) (by simp [results, Try.results17, go_sem, k0, k1, k2]; done) rfl ?_
      exact an_stored HI4.out hl1 (by omega) (((HB4.out.setCell (p := ⟨w.heap.size + 1 + 1, 0, none⟩) (by show _ ≤ _ + 1 + 1; omega) _).setCell (p := ⟨w.heap.size + 1 + 1, 1, none⟩) (by show _ ≤ _ + 1 + 1; omega) _).setCell (p := ⟨w.heap.size + 1 + 1, 2, none⟩) (by show _ ≤ _ + 1 + 1; omega) _)

end Go.Proofs.Ytamjfcckgeakfaa
