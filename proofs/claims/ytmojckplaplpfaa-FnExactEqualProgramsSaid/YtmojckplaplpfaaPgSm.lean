/-
  Statements and programs: the model's tests of equality.
-/
import Derived.Test.YtmojckplaplpfaaPgEqP
namespace Go.Proofs.Ytmojckplaplpfaa
open Go.RowKit Num

set_option maxRecDepth 100000 in
set_option maxHeartbeats 6400000 in
theorem sameStmt_any (lo lo' : Nat) (s t : Stm) (A3 A4 A5 B3 B4 B5 : Option Addr) (c3 c4 c5 d3 d4 d5 : Nat) (w : World) (hs : s.small) (ht : t.small) (h3 : ChAt lo w A3 s.nc s.ch) (h4 : IntsAt lo w A4 s.nt s.th) (h5 : IntsAt lo w A5 s.ne s.el) (k3 : ChAt lo' w B3 t.nc t.ch) (k4 : IntsAt lo' w B4 t.nt t.th) (k5 : IntsAt lo' w B5 t.ne t.el) :
    Calls Try.prog 72 #[.agg #[.int .i64 s.kind, .int .i64 s.var, .int .i64 s.ex, .slice A3 s.nc c3, .slice A4 s.nt c4, .slice A5 s.ne c5, .int .i64 s.times, .int .i64 s.proc], .agg #[.int .i64 t.kind, .int .i64 t.var, .int .i64 t.ex, .slice B3 t.nc d3, .slice B4 t.nt d4, .slice B5 t.ne d5, .int .i64 t.times, .int .i64 t.proc]] w (Yn (StEq s t) w) := by
  have hP := (Box.new w 96 #[.int .i64 s.kind, .int .i64 s.var, .int .i64 s.ex, .slice A3 s.nc c3, .slice A4 s.nt c4, .slice A5 s.ne c5, .int .i64 s.times, .int .i64 s.proc]).alloc (.cells #[.int .i64 t.kind, .int .i64 t.var, .int .i64 t.ex, .slice B3 t.nc d3, .slice B4 t.nt d4, .slice B5 t.ne d5, .int .i64 t.times, .int .i64 t.proc] 96)
  have hQ := Box.new (w.alloc (.cells #[.int .i64 s.kind, .int .i64 s.var, .int .i64 s.ex, .slice A3 s.nc c3, .slice A4 s.nt c4, .slice A5 s.ne c5, .int .i64 s.times, .int .i64 s.proc] 96)) 96 #[.int .i64 t.kind, .int .i64 t.var, .int .i64 t.ex, .slice B3 t.nc d3, .slice B4 t.nt d4, .slice B5 t.ne d5, .int .i64 t.times, .int .i64 t.proc]
  rw [show (w.alloc (.cells #[.int .i64 s.kind, .int .i64 s.var, .int .i64 s.ex, .slice A3 s.nc c3, .slice A4 s.nt c4, .slice A5 s.ne c5, .int .i64 s.times, .int .i64 s.proc] 96)).heap.size = w.heap.size + 1 by simp] at hQ
  have hB : Below w.heap.size w ((w.alloc (.cells #[.int .i64 s.kind, .int .i64 s.var, .int .i64 s.ex, .slice A3 s.nc c3, .slice A4 s.nt c4, .slice A5 s.ne c5, .int .i64 s.times, .int .i64 s.proc] 96)).alloc (.cells #[.int .i64 t.kind, .int .i64 t.var, .int .i64 t.ex, .slice B3 t.nc d3, .slice B4 t.nt d4, .slice B5 t.ne d5, .int .i64 t.times, .int .i64 t.proc] 96)) := ((Below.refl _ w).alloc (Nat.le_refl _) _).alloc (by simp) _
  obtain ⟨q0, q1, q2, q3, q4, q5, q6, q7, qf⟩ := hP.eight
  obtain ⟨u0, u1, u2, u3, u4, u5, u6, u7, uf⟩ := hQ.eight
  have H3 := Lib.hid h3
  have K3 := Lib.hid k3
  have C4 : Hid (∀ W, Below w.heap.size w W → _) := Lib.hid fun W hW => sameInts_any lo lo' A4 B4 s.nt t.nt c4 d4 s.th t.th W hs.nt ht.nt (h4.below hW (Nat.le_refl _)) (k4.below hW (Nat.le_refl _))
  have C5 : Hid (∀ W, Below w.heap.size w W → _) := Lib.hid fun W hW => sameInts_any lo lo' A5 B5 s.ne t.ne c5 d5 s.el t.el W hs.ne ht.ne (h5.below hW (Nat.le_refl _)) (k5.below hW (Nat.le_refl _))
  have hn3 := hs.nc
  have hm3 := ht.nc
  clear h3 h4 h5 k3 k4 k5 hs ht
  cases e0 : (s.kind == t.kind) with
  | false =>
    have n0 : (s.kind != t.kind) = true := by rw [bne, e0]; rfl
    go_enter Try.func72, Try.ntmps72
    go_wp2_with fail
    go_ret
    exact Yn.no (fun h => by rw [h.1] at e0; simp at e0) hB
  | true =>
    have n0 : (s.kind != t.kind) = false := by rw [bne, e0]; rfl
    cases e1 : (s.var == t.var) with
    | false =>
      have n1 : (s.var != t.var) = true := by rw [bne, e1]; rfl
      go_enter Try.func72, Try.ntmps72
      go_wp2_with fail
      go_ret
      exact Yn.no (fun h => by rw [h.2.1] at e1; simp at e1) hB
    | true =>
      have n1 : (s.var != t.var) = false := by rw [bne, e1]; rfl
      cases e2 : (s.ex == t.ex) with
      | false =>
        have n2 : (s.ex != t.ex) = true := by rw [bne, e2]; rfl
        go_enter Try.func72, Try.ntmps72
        go_wp2_with fail
        go_ret
        exact Yn.no (fun h => by rw [h.2.2.1] at e2; simp at e2) hB
      | true =>
        have n2 : (s.ex != t.ex) = false := by rw [bne, e2]; rfl
        cases e3 : (s.times == t.times) with
        | false =>
          have n3 : (s.times != t.times) = true := by rw [bne, e3]; rfl
          go_enter Try.func72, Try.ntmps72
          go_wp2_with fail
          go_ret
          exact Yn.no (fun h => by rw [h.2.2.2.1] at e3; simp at e3) hB
        | true =>
          have n3 : (s.times != t.times) = false := by rw [bne, e3]; rfl
          cases e4 : (s.proc == t.proc) with
          | false =>
            have n4 : (s.proc != t.proc) = true := by rw [bne, e4]; rfl
            go_enter Try.func72, Try.ntmps72
            go_wp2_with fail
            go_ret
            exact Yn.no (fun h => by rw [h.2.2.2.2.1] at e4; simp at e4) hB
          | true =>
            have n4 : (s.proc != t.proc) = false := by rw [bne, e4]; rfl
            cases e5 : ((s.nc : Int) == (t.nc : Int)) with
            | false =>
              have n5 : ((s.nc : Int) != (t.nc : Int)) = true := by rw [bne, e5]; rfl
              go_enter Try.func72, Try.ntmps72
              go_wp2_with fail
              go_ret
              exact Yn.no (fun h => by rw [h.2.2.2.2.2.1.1] at e5; simp at e5) hB
            | true =>
              have n5 : ((s.nc : Int) != (t.nc : Int)) = false := by rw [bne, e5]; rfl
              have E0 := Lib.hid (eq_of_beq e0)
              have E1 := Lib.hid (eq_of_beq e1)
              have E2 := Lib.hid (eq_of_beq e2)
              have E3 := Lib.hid (eq_of_beq e3)
              have E4 := Lib.hid (eq_of_beq e4)
              have E5 : Hid (s.nc = t.nc) := Lib.hid (by have := eq_of_beq e5; omega)
              go_enter Try.func72, Try.ntmps72
              go_wp2_with fail
              clear e0 e1 e2 e3 e4 e5 n0 n1 n2 n3 n4 n5 q0 q1 q2 q3 q4 q5 q6 q7 qf u0 u1 u2 u3 u4 u5 u6 u7 uf
              obtain ⟨w2, hw2⟩ : ∃ w2, w2 = ((w.alloc (.cells #[.int .i64 s.kind, .int .i64 s.var, .int .i64 s.ex, .slice A3 s.nc c3, .slice A4 s.nt c4, .slice A5 s.ne c5, .int .i64 s.times, .int .i64 s.proc] 96)).alloc (.cells #[.int .i64 t.kind, .int .i64 t.var, .int .i64 t.ex, .slice B3 t.nc d3, .slice B4 t.nt d4, .slice B5 t.ne d5, .int .i64 t.times, .int .i64 t.proc] 96)) := ⟨_, rfl⟩
              rw [← hw2] at hP hQ hB ⊢
              clear hw2
              go_loopg [51] s.nc (fun q iv wr => ∃ k : Nat, k + q = s.nc ∧ iv = .int .i64 (k : Nat) ∧ Hid (∀ j, j < k → s.ch j = t.ch j) ∧ Below w2.heap.size w2 wr)
              case atStart => exact ⟨0, by omega, rfl, Lib.hid fun j h => by omega, Below.refl _ _⟩
              case round =>
                obtain ⟨k, hk, rfl, hq, hbel⟩ := hrel
                replace hP := hP.below hbel hP.lt
                replace hQ := hQ.below hbel hQ.lt
                have hBr := hB.trans (hbel.mono hB.size)
                obtain ⟨q0, q1, q2, q3, q4, q5, q6, q7, qf⟩ := hP.eight
                obtain ⟨u0, u1, u2, u3, u4, u5, u6, u7, uf⟩ := hQ.eight
                by_cases hk0 : k < s.nc
                · have hk1 : k < t.nc := by have := E5.out; omega
                  obtain ⟨b, off, rfl, hb, r0, r1⟩ := (H3.out.below hBr (Nat.le_refl _)).at_ hk0
                  obtain ⟨b', off', rfl, hb', s0, s1⟩ := (K3.out.below hBr (Nat.le_refl _)).at_ hk1
                  cases he : ((s.ch k).1 == (t.ch k).1 && (s.ch k).2 == (t.ch k).2) with
                  | true =>
                    have HE : Hid (s.ch k = t.ch k) := Lib.hid (by rw [Bool.and_eq_true] at he; exact Prod.ext (eq_of_beq he.1) (eq_of_beq he.2))
                    have NR : ∀ W, (binOp .neq 149 (.agg #[.int .i64 (s.ch k).1, .int .i64 (s.ch k).2]) (.agg #[.int .i64 (t.ch k).1, .int .i64 (t.ch k).2])).run Try.prog W = .ok (.bool false) W := fun W => by rw [neqOfChoice, he]; rfl
                    clear he
                    go_upto_region 6 with fail
                    go_quiet (fail)
                    go_wp2_with fail
                    go_roundg (gk - 1)
                    case rel => exact ⟨k + 1, by omega, by go_num, Lib.hid fun j hj => by
                      by_cases hjk : j < k
                      · exact hq.out j hjk
                      · obtain rfl : j = k := by omega
                        exact HE.out, below_drewN _ hbel⟩
                    case measure => omega
                  | false =>
                    have HE : Hid (s.ch k ≠ t.ch k) := Lib.hid (fun h => by rw [h] at he; simp at he)
                    have NR : ∀ W, (binOp .neq 149 (.agg #[.int .i64 (s.ch k).1, .int .i64 (s.ch k).2]) (.agg #[.int .i64 (t.ch k).1, .int .i64 (t.ch k).2])).run Try.prog W = .ok (.bool true) W := fun W => by rw [neqOfChoice, he]; rfl
                    clear he
                    go_upto_region 6 with fail
                    go_quiet (fail)
                    go_wp2_with fail
                    go_ret
                    exact Yn.no (fun h => HE.out (h.2.2.2.2.2.1.2 k hk0)) (below_drewN _ hBr)
                · obtain rfl : k = s.nc := by omega
                  go_wp2_with (go_at_call 71
                               with_reducible refine (C4.out _ hBr).mono ?_
                               rintro e w3 ⟨r4, rfl, hr4, hb⟩
                               clear q0 q1 q2 q3 q4 q5 q6 q7 qf u0 u1 u2 u3 u4 u5 u6 u7 uf
                               replace hP := hP.below hb hP.lt
                               replace hQ := hQ.below hb hQ.lt
                               replace hBr := hBr.trans (hb.mono hBr.size)
                               clear hb
                               obtain ⟨q0, q1, q2, q3, q4, q5, q6, q7, qf⟩ := hP.eight
                               obtain ⟨u0, u1, u2, u3, u4, u5, u6, u7, uf⟩ := hQ.eight)
                  rotate_left
                  · go_ret
                    exact Yn.no (fun h => absurd (hr4.out.2 h.2.2.2.2.2.2.1) (by assumption)) hBr
                  have F4 : Hid (r4 = true) := Lib.hid (by assumption)
                  go_wp2_with (go_at_call 71
                               with_reducible refine (C5.out _ hBr).mono ?_
                               rintro e w3 ⟨r5, rfl, hr5, hb⟩
                               clear q0 q1 q2 q3 q4 q5 q6 q7 qf u0 u1 u2 u3 u4 u5 u6 u7 uf
                               replace hBr := hBr.trans (hb.mono hBr.size)
                               clear hb)
                  go_ret
                  exact ⟨r5, rfl, Lib.hid ⟨fun h => ⟨E0.out, E1.out, E2.out, E3.out, E4.out, ⟨E5.out, hq.out⟩, hr4.out.1 F4.out, hr5.out.1 h⟩, fun h => hr5.out.2 h.2.2.2.2.2.2.2⟩, hBr⟩

end Go.Proofs.Ytmojckplaplpfaa
