/-
  The variables of an expression, the model's list. (Written by gen_pgvo.py.)
-/
import Derived.Test.YtcdgbjklfmlhkaaPgVo2
namespace Go.Proofs.Ytcdgbjklfmlhkaa
open Go.RowKit Num

set_option maxRecDepth 100000 in
set_option maxHeartbeats 6400000 in
theorem varsOf_any (lo : Nat) (P : Prg) (Av Ax As Ap Ab : Option Addr) (cv cx cs cp cb e : Nat) (w : World) (hx : exsOk P.ex P.nv P.nx = true) (hnx : P.nx ≤ 40) (hnv : P.nv ≤ 5) (he : e < P.nx) (h : ExL lo w Ax P.nx P.ex) :
    Calls Try.prog 62 #[.agg #[.slice Av P.nv cv, .slice Ax P.nx cx, .slice As P.ns cs, .slice Ap P.np cp, .slice Ab P.nb cb, .int .i64 P.fuel], .int .i64 (e : Nat)] w fun r w' => ∃ A c, r = .returned (.slice A (ups (vI P.ex e (e + 1)) 5).length c) ∧ LsAt w.heap.size w' A (ups (vI P.ex e (e + 1)) 5) ∧ Below w.heap.size w w' := by
  have hP := Box.new w 37 #[.slice Av P.nv cv, .slice Ax P.nx cx, .slice As P.ns cs, .slice Ap P.np cp, .slice Ab P.nb cb, .int .i64 P.fuel]
  have hB := (Below.refl w.heap.size w).alloc (Nat.le_refl _) (.cells #[.slice Av P.nv cv, .slice Ax P.nx cx, .slice As P.ns cs, .slice Ap P.np cp, .slice Ab P.nb cb, .int .i64 P.fuel] 37)
  obtain ⟨q0, q1, q2, q3, q4, q5, qf⟩ := hP.six
  have H := Lib.hid h
  have HX := Lib.hid hx
  have hE : ups (vI P.ex e (e + 1)) 5 = ups (vS (pt P.ex e (e + 1)) P.ex (e + 1)) 5 := ups_congr fun j _ => (vars_same hx he j).symm
  rw [hE]
  have CP := Lib.hid (parts_any lo P Av Ax As Ap Ab cv cx cs cp cb e (w.alloc (.cells #[.slice Av P.nv cv, .slice Ax P.nx cx, .slice As P.ns cs, .slice Ap P.np cp, .slice Ab P.nb cb, .int .i64 P.fuel] 37)) hx hnx he (h.below hB (Nat.le_refl _)))
  obtain ⟨U, hU⟩ : ∃ U, U = pt P.ex e (e + 1) := ⟨_, rfl⟩
  obtain ⟨n, hn⟩ : ∃ n, n = e + 1 := ⟨_, rfl⟩
  rw [← hU] at CP ⊢
  rw [← hn] at CP ⊢
  have HN := Lib.hid hn
  clear h hx hE hU hn
  go_enter Try.func62, Try.ntmps62
  go_wp2_with (go_at_call 114; refine CP.out.mono ?_; rintro r w3 ⟨G, cs3, rfl, hbx, hc, hb3, hG⟩)
  clear q0 q1 q2 q3 q4 q5 qf
  replace hP := hP.below hb3 hP.lt
  replace hB := hB.trans (hb3.mono hB.size)
  have HC := Lib.hid hc
  clear hb3 hc CP
  go_wp2_with fail
  go_loopg [5, 12] n (fun q ov iv wr => ∃ k : Nat, k + q = n ∧ iv = .int .i64 (k : Nat) ∧ OutAt w.heap.size wr ov (ups (vS U P.ex k) 5) ∧ Below w3.heap.size w3 wr)
  case atStart => exact ⟨0, by omega, rfl, .inl ⟨by rw [vS]; exact (by decide : ups (fun _ => false) 5 = []), rfl⟩, Below.refl _ _⟩
  case round =>
    rename World => w4
    obtain ⟨k, hk, rfl, ho, hbel⟩ := hrel
    replace hP := hP.below hbel hP.lt
    replace hB := hB.trans (hbel.mono hB.size)
    replace hbx := hbx.below hbel hbx.lt
    by_cases hk0 : k < n
    · obtain ⟨q0, q1, q2, q3, q4, q5, qf⟩ := hP.six
      have k0 := HC.out.at_ hbx hk0
      have hkx : k < P.nx := by have := HN.out; omega
      have hkxi : (k : Int) < (P.nx : Int) := by omega
      obtain ⟨b, off, rfl, hb, r0, r1, r2, r3⟩ := (H.out.below hB (Nat.le_refl _)).1.at_ hkx
      have hlo := hB.size
      cases hu : U k with
      | false =>
        have HS : Hid (vS U P.ex k = vS U P.ex (k + 1)) := Lib.hid (by rw [vS, if_neg (by rw [hu]; simp)])
        rw [hu] at k0
        clear hu
        go_wp2_with fail
        go_roundg (gk - 1)
        case rel => exact ⟨k + 1, by omega, by go_num, HS.out ▸ ho, hbel⟩
        case measure => omega
      | true =>
        rw [hu] at k0
        by_cases o2 : P.ex k 0 = 2
        · have hx2 := exsOk_in HX.out hkx
          have hv : 0 ≤ P.ex k 3 ∧ P.ex k 3 < (P.nv : Int) := by
            have n1 : P.ex k 0 ≠ 1 := by omega
            simp only [exOk, if_neg n1, if_pos o2, decide_eq_true_eq] at hx2
            omega
          obtain ⟨v, hvv⟩ : ∃ v : Nat, P.ex k 3 = (v : Int) := ⟨(P.ex k 3).toNat, by omega⟩
          have hv5 : v < 5 := by omega
          have HS : Hid (setU (vS U P.ex k) v = vS U P.ex (k + 1)) := Lib.hid (by rw [vS, if_pos ⟨hu, o2⟩, hvv, Int.toNat_natCast])
          have e2 : (P.ex k 0 == 2) = true := by rw [o2]; rfl
          rw [hvv] at r3
          clear hu o2 hx2 hv hvv
          go_wp2_with (go_at_call 115; refine (put_any w.heap.size (vS U P.ex k) 5 v _ _ hv5 (by omega) hlo ho).mono ?_; rintro r w5 ⟨xv5, rfl, ho5, hb5⟩)
          go_roundg (gk - 1)
          case rel => exact ⟨k + 1, by omega, by go_num, HS.out ▸ ho5, hbel.trans (hb5.mono hbel.size)⟩
          case measure => omega
        · have HS : Hid (vS U P.ex k = vS U P.ex (k + 1)) := Lib.hid (by rw [vS, if_neg (fun h => o2 h.2)])
          have e2 : (P.ex k 0 == 2) = false := beq_eq_false_iff_ne.2 o2
          clear hu o2
          go_wp2_with fail
          go_roundg (gk - 1)
          case rel => exact ⟨k + 1, by omega, by go_num, HS.out ▸ ho, hbel⟩
          case measure => omega
    · obtain rfl : k = n := by omega
      obtain ⟨A5, c5, rfl, hl⟩ := ho.at_
      go_wp2_with fail
      go_ret
      exact ⟨A5, c5, rfl, hl, hB⟩

end Go.Proofs.Ytcdgbjklfmlhkaa
