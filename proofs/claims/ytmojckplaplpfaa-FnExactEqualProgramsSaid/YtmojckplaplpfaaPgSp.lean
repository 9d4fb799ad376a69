/-
  Programs: the model's test of equality.
-/
import Derived.Test.YtmojckplaplpfaaPgSm
namespace Go.Proofs.Ytmojckplaplpfaa
open Go.RowKit Num

theorem held6 {W W' : World} {p0 p1 p2 p3 p4 p5 : Prop} (h : p0 ∧ p1 ∧ p2 ∧ p3 ∧ p4 ∧ p5 ∧ Below W.heap.size W W') : Below W.heap.size W W' := h.2.2.2.2.2.2

theorem held18 {W W' : World} {p0 p1 p2 p3 p4 p5 p6 p7 p8 p9 p10 p11 p12 p13 p14 p15 p16 p17 : Prop} (h : p0 ∧ p1 ∧ p2 ∧ p3 ∧ p4 ∧ p5 ∧ p6 ∧ p7 ∧ p8 ∧ p9 ∧ p10 ∧ p11 ∧ p12 ∧ p13 ∧ p14 ∧ p15 ∧ p16 ∧ p17 ∧ Below W.heap.size W W') : Below W.heap.size W W' := h.2.2.2.2.2.2.2.2.2.2.2.2.2.2.2.2.2.2

set_option maxRecDepth 100000 in
set_option maxHeartbeats 6400000 in
theorem specEqPg_any (lo lo' : Nat) (P Q : Prg) (Av Ax As Ap Ab Bv Bx Bs Bp Bb : Option Addr) (cv cx cs cp cb dv dx ds dp db : Nat) (w : World) (hs : P.small) (ht : Q.small) (h : PgAt lo w Av Ax As Ap Ab P) (k : PgAt lo' w Bv Bx Bs Bp Bb Q) :
    Calls Try.prog 30 #[.agg #[.slice Av P.nv cv, .slice Ax P.nx cx, .slice As P.ns cs, .slice Ap P.np cp, .slice Ab P.nb cb, .int .i64 P.fuel], .agg #[.slice Bv Q.nv dv, .slice Bx Q.nx dx, .slice Bs Q.ns ds, .slice Bp Q.np dp, .slice Bb Q.nb db, .int .i64 Q.fuel]] w (Yn (PgEq P Q) w) := by
  have hP := (Box.new w 36 #[.slice Av P.nv cv, .slice Ax P.nx cx, .slice As P.ns cs, .slice Ap P.np cp, .slice Ab P.nb cb, .int .i64 P.fuel]).alloc (.cells #[.slice Bv Q.nv dv, .slice Bx Q.nx dx, .slice Bs Q.ns ds, .slice Bp Q.np dp, .slice Bb Q.nb db, .int .i64 Q.fuel] 36)
  have hQ := Box.new (w.alloc (.cells #[.slice Av P.nv cv, .slice Ax P.nx cx, .slice As P.ns cs, .slice Ap P.np cp, .slice Ab P.nb cb, .int .i64 P.fuel] 36)) 36 #[.slice Bv Q.nv dv, .slice Bx Q.nx dx, .slice Bs Q.ns ds, .slice Bp Q.np dp, .slice Bb Q.nb db, .int .i64 Q.fuel]
  rw [show (w.alloc (.cells #[.slice Av P.nv cv, .slice Ax P.nx cx, .slice As P.ns cs, .slice Ap P.np cp, .slice Ab P.nb cb, .int .i64 P.fuel] 36)).heap.size = w.heap.size + 1 by simp] at hQ
  have hB : Below w.heap.size w ((w.alloc (.cells #[.slice Av P.nv cv, .slice Ax P.nx cx, .slice As P.ns cs, .slice Ap P.np cp, .slice Ab P.nb cb, .int .i64 P.fuel] 36)).alloc (.cells #[.slice Bv Q.nv dv, .slice Bx Q.nx dx, .slice Bs Q.ns ds, .slice Bp Q.np dp, .slice Bb Q.nb db, .int .i64 Q.fuel] 36)) := ((Below.refl _ w).alloc (Nat.le_refl _) _).alloc (by simp) _
  obtain ⟨q0, q1, q2, q3, q4, q5, qf⟩ := hP.six
  obtain ⟨u0, u1, u2, u3, u4, u5, uf⟩ := hQ.six
  have HV := Lib.hid h.v
  have HX := Lib.hid h.x
  have HS := Lib.hid h.s
  have HP := Lib.hid h.p
  have KV := Lib.hid k.v
  have KX := Lib.hid k.x
  have KS := Lib.hid k.s
  have KP := Lib.hid k.p
  have Cb : Hid (∀ W, Below w.heap.size w W → _) := Lib.hid fun W hW => sameInts_any lo lo' Ab Bb P.nb Q.nb cb db P.bd Q.bd W hs.nb ht.nb (h.b.below hW (Nat.le_refl _)) (k.b.below hW (Nat.le_refl _))
  have SS := Lib.hid hs
  have ST := Lib.hid ht
  have bnv := hs.nv
  have bnx := hs.nx
  have bns := hs.ns
  have bnp := hs.np
  have cnv := ht.nv
  have cnx := ht.nx
  have cns := ht.ns
  have cnp := ht.np
  clear h k hs ht
  cases e0 : ((P.nv : Int) == (Q.nv : Int)) with
  | false =>
    have n0 : ((P.nv : Int) != (Q.nv : Int)) = true := by rw [bne, e0]; rfl
    go_enter Try.func30, Try.ntmps30
    go_wp2_with fail
    go_ret
    exact Yn.no (fun h => by rw [h.2.1.1] at e0; simp at e0) hB
  | true =>
    have n0 : ((P.nv : Int) != (Q.nv : Int)) = false := by rw [bne, e0]; rfl
    cases e1 : ((P.nx : Int) == (Q.nx : Int)) with
    | false =>
      have n1 : ((P.nx : Int) != (Q.nx : Int)) = true := by rw [bne, e1]; rfl
      go_enter Try.func30, Try.ntmps30
      go_wp2_with fail
      go_ret
      exact Yn.no (fun h => by rw [h.2.2.1.1] at e1; simp at e1) hB
    | true =>
      have n1 : ((P.nx : Int) != (Q.nx : Int)) = false := by rw [bne, e1]; rfl
      cases e2 : ((P.ns : Int) == (Q.ns : Int)) with
      | false =>
        have n2 : ((P.ns : Int) != (Q.ns : Int)) = true := by rw [bne, e2]; rfl
        go_enter Try.func30, Try.ntmps30
        go_wp2_with fail
        go_ret
        exact Yn.no (fun h => by rw [h.2.2.2.1.1] at e2; simp at e2) hB
      | true =>
        have n2 : ((P.ns : Int) != (Q.ns : Int)) = false := by rw [bne, e2]; rfl
        cases e3 : ((P.np : Int) == (Q.np : Int)) with
        | false =>
          have n3 : ((P.np : Int) != (Q.np : Int)) = true := by rw [bne, e3]; rfl
          go_enter Try.func30, Try.ntmps30
          go_wp2_with fail
          go_ret
          exact Yn.no (fun h => by rw [h.2.2.2.2.1.1] at e3; simp at e3) hB
        | true =>
          have n3 : ((P.np : Int) != (Q.np : Int)) = false := by rw [bne, e3]; rfl
          cases e4 : (P.fuel == Q.fuel) with
          | false =>
            have n4 : (P.fuel != Q.fuel) = true := by rw [bne, e4]; rfl
            go_enter Try.func30, Try.ntmps30
            go_wp2_with fail
            go_ret
            exact Yn.no (fun h => by rw [h.1] at e4; simp at e4) hB
          | true =>
            have n4 : (P.fuel != Q.fuel) = false := by rw [bne, e4]; rfl
            have Ev : Hid (P.nv = Q.nv) := Lib.hid (by have := eq_of_beq e0; omega)
            have Ex : Hid (P.nx = Q.nx) := Lib.hid (by have := eq_of_beq e1; omega)
            have Es : Hid (P.ns = Q.ns) := Lib.hid (by have := eq_of_beq e2; omega)
            have Ep : Hid (P.np = Q.np) := Lib.hid (by have := eq_of_beq e3; omega)
            have Ef : Hid (P.fuel = Q.fuel) := Lib.hid (eq_of_beq e4)
            go_enter Try.func30, Try.ntmps30
            go_wp2_with (go_at_call 71
                         with_reducible refine (Cb.out _ hB).mono ?_
                         rintro e w1 ⟨rb, rfl, hrb, hb⟩
                         clear q0 q1 q2 q3 q4 q5 qf u0 u1 u2 u3 u4 u5 uf
                         replace hP := hP.below hb hP.lt
                         replace hQ := hQ.below hb hQ.lt
                         replace hB := hB.trans (hb.mono hB.size)
                         clear hb
                         obtain ⟨q0, q1, q2, q3, q4, q5, qf⟩ := hP.six
                         obtain ⟨u0, u1, u2, u3, u4, u5, uf⟩ := hQ.six)
            clear e0 e1 e2 e3 e4 n0 n1 n2 n3 n4
            · go_ret
              exact Yn.no (fun h => absurd (hrb.out.2 h.2.2.2.2.2) (not_t (by assumption))) hB
            clear e0 e1 e2 e3 e4 n0 n1 n2 n3 n4 q0 q1 q2 q3 q4 q5 qf u0 u1 u2 u3 u4 u5 uf
            rename (!rb) = false => hrf
            have Fb : Hid (rb = true) := Lib.hid (not_f hrf)
            clear hrf
            go_loopg [61] P.nv (fun q iv w2 => ∃ k : Nat, k + q = P.nv ∧ iv = .int .i64 (k : Nat) ∧ Hid (∀ j, j < k → ((P.vn j, P.vz j) = (Q.vn j, Q.vz j))) ∧ Below w1.heap.size w1 w2)
            case atStart => exact ⟨0, by omega, rfl, Lib.hid fun j h => by omega, Below.refl _ _⟩
            case round =>
              rename World => w2
              obtain ⟨k, hk, rfl, hq1, hbel⟩ := hrel
              replace hP := hP.below hbel hP.lt
              replace hQ := hQ.below hbel hQ.lt
              replace hB := hB.trans (hbel.mono hB.size)
              obtain ⟨q0, q1, q2, q3, q4, q5, qf⟩ := hP.six
              obtain ⟨u0, u1, u2, u3, u4, u5, uf⟩ := hQ.six
              by_cases hk0 : k < P.nv
              · have hk1 : k < Q.nv := by have := Ev.out; omega
                obtain ⟨b, off, rfl, hb, r0, r1⟩ := (HV.out.below hB (Nat.le_refl _)).at_ hk0
                obtain ⟨b', off', rfl, hb', s0, s1⟩ := (KV.out.below hB (Nat.le_refl _)).at_ hk1
                cases he : ((P.vn k).toList == (Q.vn k).toList && P.vz k == Q.vz k) with
                | true =>
                  have HE : Hid (((P.vn k, P.vz k) = (Q.vn k, Q.vz k))) := Lib.hid (by rw [Bool.and_eq_true] at he; exact Prod.ext (toList_inj he.1) (eq_of_beq he.2))
                  have NR : ∀ W, (binOp .neq 100 (.agg #[.string (P.vn k), .int .i64 (P.vz k)]) (.agg #[.string (Q.vn k), .int .i64 (Q.vz k)])).run Try.prog W = .ok (.bool false) W := fun W => by rw [neqOfVar, he]; rfl
                  clear he
                  go_upto_region 6 with fail
                  go_quiet (fail)
                  go_wp2_with fail
                  go_roundg (gk - 1)
                  case rel => exact ⟨k + 1, by omega, by go_num, Lib.hid fun j hj => by
                    by_cases hjk : j < k
                    · exact hq1.out j hjk
                    · obtain rfl : j = k := by omega
                      exact HE.out, below_drewN _ hbel⟩
                  case measure => omega
                | false =>
                  have HE : Hid (¬ (((P.vn k, P.vz k) = (Q.vn k, Q.vz k)))) := Lib.hid (fun h => by have h1 := congrArg Prod.fst h; have h2 := congrArg Prod.snd h; simp only at h1 h2; rw [h1, h2] at he; simp at he)
                  have NR : ∀ W, (binOp .neq 100 (.agg #[.string (P.vn k), .int .i64 (P.vz k)]) (.agg #[.string (Q.vn k), .int .i64 (Q.vz k)])).run Try.prog W = .ok (.bool true) W := fun W => by rw [neqOfVar, he]; rfl
                  clear he
                  go_upto_region 6 with fail
                  go_quiet (fail)
                  go_wp2_with fail
                  go_ret
                  exact Yn.no (fun h => HE.out (h.2.1.2 k hk0)) (below_drewN _ hB)
              · obtain rfl : k = P.nv := by omega
                go_wp2_with fail
                clear q0 q1 q2 q3 q4 q5 qf u0 u1 u2 u3 u4 u5 uf hbel
                go_loopg [79] P.nx (fun q iv w3 => ∃ k : Nat, k + q = P.nx ∧ iv = .int .i64 (k : Nat) ∧ Hid (∀ j, j < k → ((P.ex j 0, P.ex j 1, P.ex j 2, P.ex j 3) = (Q.ex j 0, Q.ex j 1, Q.ex j 2, Q.ex j 3))) ∧ Below w2.heap.size w2 w3)
                case atStart => exact ⟨0, by omega, rfl, Lib.hid fun j h => by omega, Below.refl _ _⟩
                case round =>
                  rename World => w3
                  obtain ⟨k, hk, rfl, hq2, hbel⟩ := hrel
                  replace hP := hP.below hbel hP.lt
                  replace hQ := hQ.below hbel hQ.lt
                  replace hB := hB.trans (hbel.mono hB.size)
                  obtain ⟨q0, q1, q2, q3, q4, q5, qf⟩ := hP.six
                  obtain ⟨u0, u1, u2, u3, u4, u5, uf⟩ := hQ.six
                  by_cases hk0 : k < P.nx
                  · have hk1 : k < Q.nx := by have := Ex.out; omega
                    obtain ⟨b, off, rfl, hb, r0, r1, r2, r3⟩ := (HX.out.below hB (Nat.le_refl _)).1.at_ hk0
                    obtain ⟨b', off', rfl, hb', s0, s1, s2, s3⟩ := (KX.out.below hB (Nat.le_refl _)).1.at_ hk1
                    cases he : (P.ex k 0 == Q.ex k 0 && (P.ex k 1 == Q.ex k 1 && (P.ex k 2 == Q.ex k 2 && P.ex k 3 == Q.ex k 3))) with
                    | true =>
                      have HE : Hid (((P.ex k 0, P.ex k 1, P.ex k 2, P.ex k 3) = (Q.ex k 0, Q.ex k 1, Q.ex k 2, Q.ex k 3))) := Lib.hid (by simpa using he)
                      have NR : ∀ W, (binOp .neq 102 (.agg #[.int .i64 (P.ex k 0), .int .i64 (P.ex k 1), .int .i64 (P.ex k 2), .int .i64 (P.ex k 3)]) (.agg #[.int .i64 (Q.ex k 0), .int .i64 (Q.ex k 1), .int .i64 (Q.ex k 2), .int .i64 (Q.ex k 3)])).run Try.prog W = .ok (.bool false) W := fun W => by rw [neqOfExpr, Bool.and_assoc, Bool.and_assoc, he]; rfl
                      clear he
                      go_upto_region 12 with fail
                      go_quiet (fail)
                      go_wp2_with fail
                      go_roundg (gk - 1)
                      case rel => exact ⟨k + 1, by omega, by go_num, Lib.hid fun j hj => by
                        by_cases hjk : j < k
                        · exact hq2.out j hjk
                        · obtain rfl : j = k := by omega
                          exact HE.out, below_drewN _ hbel⟩
                      case measure => omega
                    | false =>
                      have HE : Hid (¬ (((P.ex k 0, P.ex k 1, P.ex k 2, P.ex k 3) = (Q.ex k 0, Q.ex k 1, Q.ex k 2, Q.ex k 3)))) := Lib.hid (fun h => by simp only [Prod.mk.injEq] at h; obtain ⟨h1, h2, h3, h4⟩ := h; rw [h1, h2, h3, h4] at he; simp at he)
                      have NR : ∀ W, (binOp .neq 102 (.agg #[.int .i64 (P.ex k 0), .int .i64 (P.ex k 1), .int .i64 (P.ex k 2), .int .i64 (P.ex k 3)]) (.agg #[.int .i64 (Q.ex k 0), .int .i64 (Q.ex k 1), .int .i64 (Q.ex k 2), .int .i64 (Q.ex k 3)])).run Try.prog W = .ok (.bool true) W := fun W => by rw [neqOfExpr, Bool.and_assoc, Bool.and_assoc, he]; rfl
                      clear he
                      go_upto_region 12 with fail
                      go_quiet (fail)
                      go_wp2_with fail
                      go_ret
                      exact Yn.no (fun h => HE.out (h.2.2.1.2 k hk0)) (below_drewN _ hB)
                  · obtain rfl : k = P.nx := by omega
                    go_wp2_with fail
                    clear q0 q1 q2 q3 q4 q5 qf u0 u1 u2 u3 u4 u5 uf hbel
                    go_loopg [97] P.ns (fun q iv w4 => ∃ k : Nat, k + q = P.ns ∧ iv = .int .i64 (k : Nat) ∧ Hid (∀ j, j < k → StEq (P.st j) (Q.st j)) ∧ Below w3.heap.size w3 w4)
                    case atStart => exact ⟨0, by omega, rfl, Lib.hid fun j h => by omega, Below.refl _ _⟩
                    case round =>
                      rename World => w4
                      obtain ⟨k, hk, rfl, hq3, hbel⟩ := hrel
                      replace hP := hP.below hbel hP.lt
                      replace hQ := hQ.below hbel hQ.lt
                      replace hB := hB.trans (hbel.mono hB.size)
                      obtain ⟨q0, q1, q2, q3, q4, q5, qf⟩ := hP.six
                      obtain ⟨u0, u1, u2, u3, u4, u5, uf⟩ := hQ.six
                      by_cases hk0 : k < P.ns
                      · have hk1 : k < Q.ns := by have := Es.out; omega
                        obtain ⟨b, off, A3, c3, A4, c4, A5, c5, rfl, hb, r0, r1, r2, r3, r4, r5, r6, r7, g3, g4, g5⟩ := (HS.out.below hB (Nat.le_refl _)).at_ hk0
                        obtain ⟨b', off', B3, d3, B4, d4, B5, d5, rfl, hb', s0, s1, s2, s3, s4, s5, s6, s7, e3, e4, e5⟩ := (KS.out.below hB (Nat.le_refl _)).at_ hk1
                        have hsk := SS.out.st k hk0
                        have htk := ST.out.st k hk1
                        have C : Hid (∀ W, Below w4.heap.size w4 W → _) := Lib.hid fun W hW => sameStmt_any lo lo' (P.st k) (Q.st k) A3 A4 A5 B3 B4 B5 c3 c4 c5 d3 d4 d5 W hsk htk (g3.below hW (Nat.le_refl _)) (g4.below hW (Nat.le_refl _)) (g5.below hW (Nat.le_refl _)) (e3.below hW (Nat.le_refl _)) (e4.below hW (Nat.le_refl _)) (e5.below hW (Nat.le_refl _))
                        clear g3 g4 g5 e3 e4 e5 hsk htk HV HX HS HP KV KX KS KP
                        have hpl := hP.lt
                        have hql := hQ.lt
                        go_upto_region 18 with fail
                        go_region_held3 (fun w' => w'.cell? ⟨w.heap.size, 2, none⟩ = some (.slice (some ⟨b, off, none⟩) P.ns cs) ∧ w'.cell? ⟨w.heap.size + 1, 2, none⟩ = some (.slice (some ⟨b', off', none⟩) Q.ns ds) ∧ w'.cell? ⟨b, off + k * 8, none⟩ = some (.int .i64 (P.st k).kind) ∧ w'.cell? ⟨b, off + k * 8 + 1, none⟩ = some (.int .i64 (P.st k).var) ∧ w'.cell? ⟨b, off + k * 8 + 2, none⟩ = some (.int .i64 (P.st k).ex) ∧ w'.cell? ⟨b, off + k * 8 + 3, none⟩ = some (.slice A3 (P.st k).nc c3) ∧ w'.cell? ⟨b, off + k * 8 + 4, none⟩ = some (.slice A4 (P.st k).nt c4) ∧ w'.cell? ⟨b, off + k * 8 + 5, none⟩ = some (.slice A5 (P.st k).ne c5) ∧ w'.cell? ⟨b, off + k * 8 + 6, none⟩ = some (.int .i64 (P.st k).times) ∧ w'.cell? ⟨b, off + k * 8 + 7, none⟩ = some (.int .i64 (P.st k).proc) ∧ w'.cell? ⟨b', off' + k * 8, none⟩ = some (.int .i64 (Q.st k).kind) ∧ w'.cell? ⟨b', off' + k * 8 + 1, none⟩ = some (.int .i64 (Q.st k).var) ∧ w'.cell? ⟨b', off' + k * 8 + 2, none⟩ = some (.int .i64 (Q.st k).ex) ∧ w'.cell? ⟨b', off' + k * 8 + 3, none⟩ = some (.slice B3 (Q.st k).nc d3) ∧ w'.cell? ⟨b', off' + k * 8 + 4, none⟩ = some (.slice B4 (Q.st k).nt d4) ∧ w'.cell? ⟨b', off' + k * 8 + 5, none⟩ = some (.slice B5 (Q.st k).ne d5) ∧ w'.cell? ⟨b', off' + k * 8 + 6, none⟩ = some (.int .i64 (Q.st k).times) ∧ w'.cell? ⟨b', off' + k * 8 + 7, none⟩ = some (.int .i64 (Q.st k).proc) ∧ Below w4.heap.size w4 w')
                            ((suffices hBB : Below w4.heap.size w4 _ from ⟨(hBB.cell hpl).trans q2, (hBB.cell hql).trans u2, (hBB.cell hb).trans r0, (hBB.cell hb).trans r1, (hBB.cell hb).trans r2, (hBB.cell hb).trans r3, (hBB.cell hb).trans r4, (hBB.cell hb).trans r5, (hBB.cell hb).trans r6, (hBB.cell hb).trans r7, (hBB.cell hb').trans s0, (hBB.cell hb').trans s1, (hBB.cell hb').trans s2, (hBB.cell hb').trans s3, (hBB.cell hb').trans s4, (hBB.cell hb').trans s5, (hBB.cell hb').trans s6, (hBB.cell hb').trans s7, hBB⟩; first | exact (Below.refl _ w4).drew | exact held18 (by assumption) | (refine stepB (held18 (by assumption)) ?_; assumption)))
                            ((go_at_call 72; refine (C.out _ (held18 (by assumption))).mono ?_; rintro e w9 ⟨r, rfl, hr, hb1⟩))
                        all_goals go_wp2_with fail
                        all_goals have hB4 : Below w4.heap.size w4 w9 := held18 (by assumption)
                        all_goals first
                          | (go_ret
                             exact Yn.no (fun h => absurd (hr.out.2 (h.2.2.2.1.2 k hk0)) (not_t (by assumption))) (hB.trans (hB4.mono hB.size)))
                          | (have HE : Hid (r = true) := Lib.hid (not_f (by assumption))
                             go_roundg (gk - 1)
                             case rel => exact ⟨k + 1, by omega, by go_num, Lib.hid fun j hj => by
                               by_cases hjk : j < k
                               · exact hq3.out j hjk
                               · obtain rfl : j = k := by omega
                                 exact hr.out.1 HE.out, hbel.trans (hB4.mono hbel.size)⟩
                             case measure => omega)
                      · obtain rfl : k = P.ns := by omega
                        go_wp2_with fail
                        clear q0 q1 q2 q3 q4 q5 qf u0 u1 u2 u3 u4 u5 uf hbel
                        go_loopg [116] P.np (fun q iv w5 => ∃ k : Nat, k + q = P.np ∧ iv = .int .i64 (k : Nat) ∧ Hid (∀ j, j < k → (P.pn j = Q.pn j ∧ LsEq (P.pl j) (P.pb j) (Q.pl j) (Q.pb j))) ∧ Below w4.heap.size w4 w5)
                        case atStart => exact ⟨0, by omega, rfl, Lib.hid fun j h => by omega, Below.refl _ _⟩
                        case round =>
                          rename World => w5
                          obtain ⟨k, hk, rfl, hq4, hbel⟩ := hrel
                          replace hP := hP.below hbel hP.lt
                          replace hQ := hQ.below hbel hQ.lt
                          replace hB := hB.trans (hbel.mono hB.size)
                          obtain ⟨q0, q1, q2, q3, q4, q5, qf⟩ := hP.six
                          obtain ⟨u0, u1, u2, u3, u4, u5, uf⟩ := hQ.six
                          by_cases hk0 : k < P.np
                          · have hk1 : k < Q.np := by have := Ep.out; omega
                            obtain ⟨b, off, A3, c3, rfl, hb, r0, r1, g3⟩ := (HP.out.below hB (Nat.le_refl _)).at_ hk0
                            obtain ⟨b', off', B3, d3, rfl, hb', s0, s1, e3⟩ := (KP.out.below hB (Nat.le_refl _)).at_ hk1
                            have hsk := SS.out.pl k hk0
                            have htk := ST.out.pl k hk1
                            have C : Hid (∀ W, Below w5.heap.size w5 W → _) := Lib.hid fun W hW => sameInts_any lo lo' A3 B3 (P.pl k) (Q.pl k) c3 d3 (P.pb k) (Q.pb k) W hsk htk (g3.below hW (Nat.le_refl _)) (e3.below hW (Nat.le_refl _))
                            clear g3 e3 hsk htk HV HX HS HP KV KX KS KP
                            have hpl := hP.lt
                            have hql := hQ.lt
                            cases he : ((P.pn k).toList == (Q.pn k).toList) with
                            | false =>
                              have ne : ((P.pn k).toList != (Q.pn k).toList) = true := by rw [bne, he]; rfl
                              have HE : Hid (¬ (P.pn k = Q.pn k)) := Lib.hid (fun h => by rw [h] at he; simp at he)
                              go_upto_region 24 with fail
                              go_quiet (fail)
                              go_wp2_with fail
                              go_ret
                              exact Yn.no (fun h => HE.out (h.2.2.2.2.1.2 k hk0).1) (below_drewN _ hB)
                            | true =>
                              have ne : ((P.pn k).toList != (Q.pn k).toList) = false := by rw [bne, he]; rfl
                              have HN : Hid (P.pn k = Q.pn k) := Lib.hid (toList_inj he)
                              go_upto_region 24 with fail
                              go_region_held3 (fun w' => w'.cell? ⟨w.heap.size, 3, none⟩ = some (.slice (some ⟨b, off, none⟩) P.np cp) ∧ w'.cell? ⟨w.heap.size + 1, 3, none⟩ = some (.slice (some ⟨b', off', none⟩) Q.np dp) ∧ w'.cell? ⟨b, off + k * 2, none⟩ = some (.string (P.pn k)) ∧ w'.cell? ⟨b, off + k * 2 + 1, none⟩ = some (.slice A3 (P.pl k) c3) ∧ w'.cell? ⟨b', off' + k * 2, none⟩ = some (.string (Q.pn k)) ∧ w'.cell? ⟨b', off' + k * 2 + 1, none⟩ = some (.slice B3 (Q.pl k) d3) ∧ Below w5.heap.size w5 w')
                                  ((suffices hBB : Below w5.heap.size w5 _ from ⟨(hBB.cell hpl).trans q3, (hBB.cell hql).trans u3, (hBB.cell hb).trans r0, (hBB.cell hb).trans r1, (hBB.cell hb').trans s0, (hBB.cell hb').trans s1, hBB⟩; first | exact (Below.refl _ w5).drew | exact held6 (by assumption) | (refine stepB (held6 (by assumption)) ?_; assumption)))
                                  ((go_at_call 71; refine (C.out _ (held6 (by assumption))).mono ?_; rintro e w9 ⟨r, rfl, hr, hb1⟩))
                              all_goals go_wp2_with fail
                              all_goals have hB4 : Below w5.heap.size w5 w9 := held6 (by assumption)
                              all_goals first
                                | (go_ret
                                   exact Yn.no (fun h => absurd (hr.out.2 (h.2.2.2.2.1.2 k hk0).2) (not_t (by assumption))) (hB.trans (hB4.mono hB.size)))
                                | (have HE : Hid (r = true) := Lib.hid (not_f (by assumption))
                                   go_roundg (gk - 1)
                                   case rel => exact ⟨k + 1, by omega, by go_num, Lib.hid fun j hj => by
                                     by_cases hjk : j < k
                                     · exact hq4.out j hjk
                                     · obtain rfl : j = k := by omega
                                       exact ⟨HN.out, hr.out.1 HE.out⟩, hbel.trans (hB4.mono hbel.size)⟩
                                   case measure => omega)
                          · obtain rfl : k = P.np := by omega
                            go_wp2_with fail
                            go_ret
                            exact Yn.yes ⟨Ef.out, ⟨Ev.out, hq1.out⟩, ⟨Ex.out, hq2.out⟩, ⟨Es.out, hq3.out⟩, ⟨Ep.out, hq4.out⟩, hrb.out.1 Fb.out⟩ hB

end Go.Proofs.Ytmojckplaplpfaa
