/-
  The model's test of the procedures.
-/
import Derived.Test.YtoaiejodbmkbjaaGreatDoorPgOk
namespace Go.Proofs.YtoaiejodbmkbjaaGreatDoor
open Go.RowKit Num

set_option maxRecDepth 100000 in
set_option maxHeartbeats 3200000 in
theorem specProcs_any (lo : Nat) (P : Prg) (Av Ax As Ap Ab : Option Addr) (cv cx cs cp cb : Nat) (w : World) (hs : P.small) (hcp : P.np ≤ cp) (h : PgAt lo w Av Ax As Ap Ab P) :
    Calls Tryz.prog 37 #[.agg #[.slice Av P.nv cv, .slice Ax P.nx cx, .slice As P.ns cs, .slice Ap P.np cp, .slice Ab P.nb cb, .int .i64 P.fuel]] w (Yn (ProcsOk P) w) := by
  have hP := Box.new w 37 #[.slice Av P.nv cv, .slice Ax P.nx cx, .slice As P.ns cs, .slice Ap P.np cp, .slice Ab P.nb cb, .int .i64 P.fuel]
  have hB := (Below.refl w.heap.size w).alloc (Nat.le_refl _) (.cells #[.slice Av P.nv cv, .slice Ax P.nx cx, .slice As P.ns cs, .slice Ap P.np cp, .slice Ab P.nb cb, .int .i64 P.fuel] 37)
  obtain ⟨q0, q1, q2, q3, q4, q5, qf⟩ := hP.six
  have HV := Lib.hid h.v
  have HP := Lib.hid h.p
  have hnv := hs.nv
  have hnp := hs.np
  have HN := Lib.hid hs.pn
  clear h hs
  go_enter Tryz.func37, Tryz.ntmps37
  go_wp2_with fail
  clear q0 q1 q2 q3 q4 q5 qf
  obtain ⟨w1, hw1⟩ : ∃ w1, w1 = w.alloc (.cells #[.slice Av P.nv cv, .slice Ax P.nx cx, .slice As P.ns cs, .slice Ap P.np cp, .slice Ab P.nb cb, .int .i64 P.fuel] 37) := ⟨_, rfl⟩
  rw [← hw1] at hP hB ⊢
  clear hw1
  go_loopg [12] P.np (fun q iv wr => ∃ k : Nat, k + q = P.np ∧ iv = .int .i64 (k : Nat) ∧ Hid (∀ j, j < k → ProcOk P j) ∧ Below w1.heap.size w1 wr)
  case atStart => exact ⟨0, by omega, rfl, Lib.hid fun j h => by omega, Below.refl _ _⟩
  case round =>
    rename World => w2
    obtain ⟨k, hk, rfl, hq, hbel⟩ := hrel
    replace hP := hP.below hbel hP.lt
    replace hB := hB.trans (hbel.mono hB.size)
    by_cases hk0 : k < P.np
    · obtain ⟨b, off, A1, c1, rfl, hb, r0, r1, _⟩ := (HP.out.below hB (Nat.le_refl _)).at_ hk0
      have hV := Box.new w2 89 #[.string (P.pn k), .slice A1 (P.pl k) c1]
      have hal := (Below.refl w2.heap.size w2).alloc (Nat.le_refl _) (.cells #[.string (P.pn k), .slice A1 (P.pl k) c1] 89)
      obtain ⟨v0, v1, _, _⟩ := hV.two
      have CN : Hid (∀ W, _) := Lib.hid fun W => name_any (P.pn k) W (by have := HN.out k hk0; omega)
      cases hno : nameOk (P.pn k) with
      | false =>
        rw [hno] at CN
        have HE := Lib.hid hno
        clear hno
        go_wp2_with (go_at_call 58; refine (CN.out _).mono ?_; rintro e w3 ⟨rfl, hb3⟩)
        go_ret
        exact Yn.no (fun h => by have := (h.1 k hk0).1; rw [HE.out] at this; cases this) (hB.trans ((hal.trans (hb3.mono hal.size)).mono hB.size))
      | true =>
        rw [hno] at CN
        have HE := Lib.hid hno
        clear hno
        obtain ⟨q0, q1, q2, q3, q4, q5, qf⟩ := hP.six
        go_wp2_with (go_at_call 58; refine (CN.out _).mono ?_; rintro e w3 ⟨rfl, hb3⟩; replace hV := hV.below hb3 hV.lt; replace hP := (hP.below hal hP.lt).below hb3 (hP.below hal hP.lt).lt; clear v0 v1 q0 q1 q2 q3 q4 q5 qf; obtain ⟨v0, v1, _, _⟩ := hV.two; obtain ⟨q0, q1, q2, q3, q4, q5, qf⟩ := hP.six)
        have hB3 := hB.trans ((hal.trans (hb3.mono hal.size)).mono hB.size)
        have hb13 := hbel.trans ((hal.trans (hb3.mono hal.size)).mono hbel.size)
        clear v0 v1 q0 q1 q2 q3 q4 q5 qf r0 r1 CN
        go_loopg [24] P.nv (fun q iv wr => ∃ m : Nat, m + q = P.nv ∧ iv = .int .i64 (m : Nat) ∧ Hid (∀ j, j < m → P.vn j ≠ P.pn k) ∧ Below w3.heap.size w3 wr)
        case atStart => exact ⟨0, by omega, rfl, Lib.hid fun j h => by omega, Below.refl _ _⟩
        case round =>
          rename World => w4
          obtain ⟨m, hm, rfl, hqm, hbel4⟩ := hrel
          replace hV := hV.below hbel4 hV.lt
          replace hP := hP.below hbel4 hP.lt
          replace hB3 := hB3.trans (hbel4.mono hB3.size)
          replace hb13 := hb13.trans (hbel4.mono hb13.size)
          obtain ⟨v0, v1, _, _⟩ := hV.two
          by_cases hm0 : m < P.nv
          · obtain ⟨b2, off2, rfl, hb2, s0, s1⟩ := (HV.out.below hB3 (Nat.le_refl _)).at_ hm0
            have hU := (Box.new w4 82 #[.string (P.vn m), .int .i64 (P.vz m)])
            have hal4 := (Below.refl w4.heap.size w4).alloc (Nat.le_refl _) (.cells #[.string (P.vn m), .int .i64 (P.vz m)] 82)
            obtain ⟨u0, u1, _, _⟩ := hU.two
            replace hV := hV.below hal4 hV.lt
            obtain ⟨t0, t1, _, _⟩ := hV.two
            cases he : ((P.vn m).toList == (P.pn k).toList) with
            | true =>
              have HE2 := Lib.hid (toList_inj he)
              go_wp2_with fail
              go_ret
              exact Yn.no (fun h => (h.1 k hk0).2.1 m hm0 HE2.out) (hB3.trans (hal4.mono hB3.size))
            | false =>
              have HE2 := Lib.hid (ne_of_lists he)
              go_wp2_with fail
              go_roundg (gk - 1)
              case rel => exact ⟨m + 1, by omega, by go_num, Lib.hid fun j hj => by
                by_cases hjk : j < m
                · exact hqm.out j hjk
                · obtain rfl : j = m := by omega
                  exact HE2.out, hbel4.trans (hal4.mono hbel4.size)⟩
              case measure => omega
          · obtain rfl : m = P.nv := by omega
            obtain ⟨q0, q1, q2, q3, q4, q5, qf⟩ := hP.six
            have hcap : ¬ ((cp : Int) = (k : Int)) := by omega
            have hcap0 : ¬ (cp = 0) := by omega
            have hcap1 : ¬ (cp = k) := by omega
            have hlec : (k : Int) ≤ (cp : Int) := by omega
            have hlen : (k : Int) ≤ (P.np : Int) := by omega
            go_wp2_with fail
            clear v0 v1 q0 q1 q2 q3 q4 q5 qf hcap hcap0 hcap1 hlec hlen
            go_loopg [39] k (fun q iv wr => ∃ m : Nat, m + q = k ∧ iv = .int .i64 (m : Nat) ∧ Hid (∀ j, j < m → P.pn j ≠ P.pn k) ∧ Below w4.heap.size w4 wr)
            case atStart => exact ⟨0, by omega, rfl, Lib.hid fun j h => by omega, Below.refl _ _⟩
            case round =>
              rename World => w5
              obtain ⟨m, hm, rfl, hqp, hbel5⟩ := hrel
              replace hV := hV.below hbel5 hV.lt
              replace hP := hP.below hbel5 hP.lt
              replace hB3 := hB3.trans (hbel5.mono hB3.size)
              replace hb13 := hb13.trans (hbel5.mono hb13.size)
              obtain ⟨v0, v1, _, _⟩ := hV.two
              by_cases hm0 : m < k
              · obtain ⟨b2, off2, A2, c2, e2, hb2, s0, s1, _⟩ := (HP.out.below hB3 (Nat.le_refl _)).at_ (show m < P.np by omega)
                injection e2 with e2
                injection e2 with e3 e4 _
                subst e3 e4
                have hU := (Box.new w5 89 #[.string (P.pn m), .slice A2 (P.pl m) c2])
                have hal5 := (Below.refl w5.heap.size w5).alloc (Nat.le_refl _) (.cells #[.string (P.pn m), .slice A2 (P.pl m) c2] 89)
                obtain ⟨u0, u1, _, _⟩ := hU.two
                replace hV := hV.below hal5 hV.lt
                obtain ⟨t0, t1, _, _⟩ := hV.two
                cases he : ((P.pn m).toList == (P.pn k).toList) with
                | true =>
                  have HE2 := Lib.hid (toList_inj he)
                  go_wp2_with fail
                  go_ret
                  exact Yn.no (fun h => (h.1 k hk0).2.2 m hm0 HE2.out) (hB3.trans (hal5.mono hB3.size))
                | false =>
                  have HE2 := Lib.hid (ne_of_lists he)
                  go_wp2_with fail
                  go_roundg (gk - 1)
                  case rel => exact ⟨m + 1, by omega, by go_num, Lib.hid fun j hj => by
                    by_cases hjk : j < m
                    · exact hqp.out j hjk
                    · obtain rfl : j = m := by omega
                      exact HE2.out, hbel5.trans (hal5.mono hbel5.size)⟩
                  case measure => omega
              · obtain rfl : m = k := by omega
                go_wp2_with fail
                go_roundg (P.np - (m + 1))
                case rel => exact ⟨m + 1, by omega, by go_num, Lib.hid fun j hj => by
                  by_cases hjk : j < m
                  · exact hq.out j hjk
                  · obtain rfl : j = m := by omega
                    exact ⟨HE.out, hqm.out, hqp.out⟩, hb13⟩
                case measure => omega
    · obtain rfl : k = P.np := by omega
      obtain ⟨q0, q1, q2, q3, q4, q5, qf⟩ := hP.six
      go_wp2_with fail
      go_ret
      exact ⟨_, rfl, Lib.hid ⟨fun h => ⟨hq.out, by simp at h; omega⟩, fun h => by have := h.2; simp; omega⟩, hB⟩

end Go.Proofs.YtoaiejodbmkbjaaGreatDoor
