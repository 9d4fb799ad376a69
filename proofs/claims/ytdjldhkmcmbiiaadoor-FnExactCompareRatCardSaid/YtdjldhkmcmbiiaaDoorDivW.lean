/-
  The library's division of two words by one.
-/
import Derived.Test.YtdjldhkmcmbiiaaDoorWordW
import Derived.Test.YtdjldhkmcmbiiaaDoorPureM
import Derived.Deep.DeepCutAuto
namespace Go.Proofs.YtdjldhkmcmbiiaaDoor
open Go.RowKit Num

/-- The guess at a half step's head. -/
structure HalfAt (y1 y0 u c q r : Nat) : Prop where
  inv : Half.Inv 4294967296 y1 y0 u c q r
  rl : r < 4294967296
  ql : q ≤ 4294967297

set_option maxRecDepth 100000 in
set_option maxHeartbeats 1600000 in
theorem div64_big (hi lo y : Nat) (hlo : lo < 18446744073709551616) (hy : y < 18446744073709551616) (hhi : hi < y) (h0 : hi ≠ 0) (w : World) :
    Calls Tryd.prog 129 #[.int .u64 hi, .int .u64 lo, .int .u64 y] w fun e w' => e = .returned (.tuple #[.int .u64 ((hi * 18446744073709551616 + lo) / y : Nat), .int .u64 ((hi * 18446744073709551616 + lo) % y : Nat)]) ∧ ∃ nq, w' = w.drewN nq := by
  obtain ⟨s, hs⟩ : ∃ s, s = lz y := ⟨_, rfl⟩
  have c1 : ∀ W, Calls Tryd.prog 101 #[.int .u64 y] W fun e w' => e = .returned (.int .i64 (s : Nat)) ∧ W = w' := fun W => by rw [hs]; exact lz64 y hy W
  obtain ⟨hs1, hs2, hs3⟩ := lz_spec y (by omega) hy
  rw [← hs] at hs1 hs2 hs3
  have C1 := Lib.hid c1; clear c1
  have Hs := Lib.hid hs; clear hs
  have Hs2 := Lib.hid hs2; clear hs2
  have Hs3 := Lib.hid hs3; clear hs3
  have e0 : ((y : Int) == 0) = false := by rw [beq_eq_false_iff_ne]; omega
  have e1 : decide ((y : Int) ≤ (hi : Int)) = false := by rw [decide_eq_false_iff_not]; omega
  have e2 : ((hi : Int) == 0) = false := by rw [beq_eq_false_iff_ne]; omega
  obtain ⟨Y, hY⟩ : ∃ Y, Y = y * 2 ^ s := ⟨_, rfl⟩
  have kY : IntKind.u64.wrap ((y : Int) * 2 ^ s) = (Y : Int) := by
    have := Hs2.out
    rw [← hY] at this
    have e : ((y : Int) * 2 ^ s) = (Y : Int) := by rw [hY]; simp
    rw [e, IntWalk.u64_in _ (by omega)]
  have HY := Lib.hid hY
  have HY2 : Hid (Y < 18446744073709551616) := Lib.hid (by rw [hY]; exact Hs2.out)
  have HY3 : Hid (9223372036854775808 ≤ Y) := Lib.hid (by rw [hY]; exact Hs3.out)
  clear hY
  obtain ⟨y1, hy1⟩ : ∃ y1, y1 = Y / 4294967296 := ⟨_, rfl⟩
  have ky1 : (Y : Int) / 4294967296 = (y1 : Int) := by omega
  have hy10 : ¬ y1 = 0 := by have := HY3.out; omega
  have Hy1 := Lib.hid hy1; clear hy1
  have Y0 : Hid (∃ y0, y0 = Y % 4294967296) := ⟨_, rfl⟩
  obtain ⟨y0, hy0⟩ := Y0.out
  have ky0 : bits BinOp.and IntKind.u64 (Y : Int) 4294967295 = (y0 : Int) := by
    have := bits_and_u64_nat Y 4294967295 HY2.out (by omega)
    rw [hy0, ← Nat.and_two_pow_sub_one_eq_mod Y 32]
    exact this
  have Hy0 := Lib.hid hy0; clear hy0 Y0
  obtain ⟨H, hH⟩ : ∃ H, H = hi * 2 ^ s := ⟨_, rfl⟩
  have hHl : H < 18446744073709551616 := by
    have h1 := Nat.mul_lt_mul_of_pos_right hhi (Nat.pow_pos (n := s) (show 0 < 2 by omega))
    have h2 := Hs2.out
    omega
  have kH : IntKind.u64.wrap ((hi : Int) * 2 ^ s) = (H : Int) := by
    have e : ((hi : Int) * 2 ^ s) = (H : Int) := by rw [hH]; simp
    rw [e, IntWalk.u64_in _ (by omega)]
  obtain ⟨L, hL⟩ : ∃ L, L = lo / 2 ^ (64 - s) := ⟨_, rfl⟩
  have kL : (lo : Int) / 2 ^ (64 - s) = (L : Int) := by rw [hL]; simp
  have hLl : L < 2 ^ s := by
    rw [hL, Nat.div_lt_iff_lt_mul (Nat.pow_pos (by omega)), ← Step.two_pow_split s (by omega)]; exact hlo
  obtain ⟨U, hU⟩ : ∃ U, U = H + L := ⟨_, rfl⟩
  have hL64 : L < 18446744073709551616 := by rw [hL]; exact Nat.lt_of_le_of_lt (Nat.div_le_self _ _) hlo
  have kU : bits BinOp.or IntKind.u64 (H : Int) (L : Int) = (U : Int) := by
    rw [bits_or_u64_nat H L hHl hL64, hU, hH, Nat.mul_comm, Nat.two_pow_add_eq_or_of_lt hLl]
  obtain ⟨V, hV⟩ : ∃ V, V = lo * 2 ^ s % 18446744073709551616 := ⟨_, rfl⟩
  have kV : IntKind.u64.wrap ((lo : Int) * 2 ^ s) = (V : Int) := by
    have e : ((lo : Int) * 2 ^ s) = ((lo * 2 ^ s : Nat) : Int) := by simp
    rw [e, IntKind.wrap_u64, hV]; omega
  have hVl : V < 18446744073709551616 := by rw [hV]; exact Nat.mod_lt _ (by omega)
  have hUV : (hi * 18446744073709551616 + lo) * 2 ^ s = U * 18446744073709551616 + V := by
    have h1 := (Step.shl_word lo s 0 (by omega) (Nat.pow_pos (by omega))).2
    rw [← hL, ← hV] at h1
    rw [hU, hH, Nat.add_mul, h1, Nat.add_mul]
    have : hi * 18446744073709551616 * 2 ^ s = hi * 2 ^ s * 18446744073709551616 := by rw [Nat.mul_right_comm]
    omega
  have hUY : U < Y := by
    have h1 : (hi * 18446744073709551616 + lo) * 2 ^ s < y * 18446744073709551616 * 2 ^ s := Nat.mul_lt_mul_of_pos_right (by omega) (Nat.pow_pos (by omega))
    have h3 : y * 18446744073709551616 * 2 ^ s = Y * 18446744073709551616 := by rw [HY.out, Nat.mul_right_comm]
    omega
  obtain ⟨v1, hv1⟩ : ∃ v1, v1 = V / 4294967296 := ⟨_, rfl⟩
  have kv1 : (V : Int) / 4294967296 = (v1 : Int) := by omega
  obtain ⟨v0, hv0⟩ : ∃ v0, v0 = V % 4294967296 := ⟨_, rfl⟩
  have kv0 : bits BinOp.and IntKind.u64 (V : Int) 4294967295 = (v0 : Int) := by
    have := bits_and_u64_nat V 4294967295 hVl (by omega)
    rw [hv0, ← Nat.and_two_pow_sub_one_eq_mod V 32]
    exact this
  have hY10 : Y = y1 * 4294967296 + y0 := by have h1 := Hy1.out; have h2 := Hy0.out; omega
  have hv1l : v1 < 4294967296 := by omega
  have hv0l : v0 < 4294967296 := by omega
  have hy0l : y0 < 4294967296 := by have h2 := Hy0.out; omega
  have hy1l : 2147483648 ≤ y1 ∧ y1 < 4294967296 := by have h1 := Hy1.out; have h2 := HY3.out; have h3 := HY2.out; omega
  have Hy1l := Lib.hid hy1l
  have HH := Lib.hid hH; clear hH
  have HL := Lib.hid hL; clear hL
  have HU := Lib.hid hU; clear hU
  have HV := Lib.hid hV; clear hV
  have HUV := Lib.hid hUV; clear hUV
  have HY10 := Lib.hid hY10; clear hY10
  have Hv1 := Lib.hid hv1; clear hv1
  have Hv0 := Lib.hid hv0; clear hv0
  clear hLl hL64 hHl
  obtain ⟨q, hq⟩ : ∃ q, q = U / y1 := ⟨_, rfl⟩
  obtain ⟨r, hr⟩ : ∃ r, r = U - q * y1 := ⟨_, rfl⟩
  have hUl : U < 18446744073709551616 := by have := HY2.out; omega
  have kq : (U : Int) / (y1 : Int) = (q : Int) := by rw [hq]; simp
  have hqy : q * y1 ≤ U := by rw [hq]; exact Nat.div_mul_le_self _ _
  have hqb : q < 18446744073709551616 := by rw [hq]; exact Nat.lt_of_le_of_lt (Nat.div_le_self _ _) hUl
  have kp : IntKind.u64.wrap ((q : Int) * (y1 : Int)) = ((q * y1 : Nat) : Int) := by
    rw [show ((q : Int) * (y1 : Int)) = ((q * y1 : Nat) : Int) by simp, IntWalk.u64_in _ (by omega)]
  have kr : IntKind.u64.wrap ((U : Int) - (q : Int) * (y1 : Int)) = (r : Int) := by
    rw [show ((U : Int) - (q : Int) * (y1 : Int)) = ((U - q * y1 : Nat) : Int) by rw [Int.ofNat_sub hqy]; simp, hr, IntWalk.u64_in _ (by omega)]
  have hstart1 : Half.Inv 4294967296 y1 y0 U v1 q r := by rw [hr, hq]; exact Half.start (by omega) (by omega) hv1l
  have hr32 : r < y1 := by rw [hr, hq]; have := Nat.div_add_mod U y1; have := Nat.mod_lt U (show 0 < y1 by omega); have := Nat.mul_comm (U / y1) y1; omega
  have hq33 : q ≤ 4294967297 := Half.q_le hy0l (by omega) (by rw [← HY10.out]; exact hUY) hstart1.eq
  have Hstart1 := Lib.hid hstart1; clear hstart1
  obtain ⟨Q1, hQ1⟩ : ∃ Q1, Q1 = (U * 4294967296 + v1) / Y := ⟨_, rfl⟩
  have HQ1 := Lib.hid hQ1; clear hQ1
  have Hq := Lib.hid hq; clear hq
  have Hr := Lib.hid hr; clear hr
  clear hqy
  go_enter Tryd.func129, Tryd.ntmps129
  go_upto_block 0 with (go_at_call 101; refine (C1.out _).mono ?_; rintro e w' ⟨rfl, rfl⟩)
  have Hcv1 := Lib.hid hv1l; clear hv1l
  have Hcv0 := Lib.hid hv0l; clear hv0l
  have Hy0l := Lib.hid hy0l; clear hy0l
  have HUY := Lib.hid hUY; clear hUY
  have Hr32 : Hid (r < 4294967296) := Lib.hid (by omega)
  clear hr32
  have Hq33 := Lib.hid hq33; clear hq33
  have Hlo := Lib.hid hlo; clear hlo
  have Hy := Lib.hid hy; clear hy
  have Hhi := Lib.hid hhi; clear hhi
  clear hVl hUl hqb hy1l
  go_cut [15] (fun s15 wx => s15 = .int .u64 (Q1 : Nat) ∧ w = wx)
  case first =>
    go_wp2_with fail
    go_loop [15, 16] (fun a b => ∃ q r : Nat, a = .int .u64 (q : Nat) ∧ b = .int .u64 (r : Nat) ∧ HalfAt y1 y0 U v1 q r) (fun a _ => (intOf a).toNat)
    case atStart => exact ⟨q, r, rfl, rfl, ⟨Hstart1.out, Hr32.out, Hq33.out⟩⟩
    case round =>
      obtain ⟨q, r, rfl, rfl, hat⟩ := hrel
      have Hat := Lib.hid hat; clear hat
      obtain ⟨P, hP⟩ : ∃ P, P = q * y0 := ⟨_, rfl⟩
      obtain ⟨N, hN⟩ : ∃ N, N = 4294967296 * r + v1 := ⟨_, rfl⟩
      obtain ⟨M, hM⟩ : ∃ M, M = 4294967296 * r := ⟨_, rfl⟩
      obtain ⟨q', hq'⟩ : ∃ q', q' = q - 1 := ⟨_, rfl⟩
      obtain ⟨r', hr'⟩ : ∃ r', r' = r + y1 := ⟨_, rfl⟩
      have kM : IntKind.u64.wrap (4294967296 * (r : Int)) = (M : Int) := by have := Hat.out.rl; rw [IntWalk.u64_in _ (by omega)]; omega
      have kN : IntKind.u64.wrap ((M : Int) + (v1 : Int)) = (N : Int) := by have := Hat.out.rl; have := Hcv1.out; rw [IntWalk.u64_in _ (by omega)]; omega
      have kr' : IntKind.u64.wrap ((r : Int) + (y1 : Int)) = (r' : Int) := by have := Hat.out.rl; have := Hy1l.out; rw [IntWalk.u64_in _ (by omega)]; omega
      have kP : IntKind.u64.wrap ((q : Int) * (y0 : Int)) = (P : Int) := by
        have hPb : P < 18446744073709551616 := by
          rw [hP]
          have := Nat.mul_le_mul Hat.out.ql (Nat.le_of_lt_succ Hy0l.out)
          omega
        rw [show ((q : Int) * (y0 : Int)) = (P : Int) by rw [hP]; simp, IntWalk.u64_in _ (by omega)]
      have hmore : (4294967296 ≤ q ∨ N < P) → Half.Inv 4294967296 y1 y0 U v1 q' r' ∧ 1 ≤ q := fun h => by
        rw [hq', hr']
        exact Half.less Hat.out.inv (by have := Hy1l.out; omega) (by rw [← HY10.out]; exact HUY.out) Hcv1.out (by rw [← hP, ← hN]; exact h)
      have hdone : ¬ N < P → q = Q1 := fun h => by rw [HQ1.out, HY10.out]; exact (Half.done Hat.out.inv (by have := Hy1l.out; omega) (by rw [← hP, ← hN]; omega)).symm
      have hwide : Half.Inv 4294967296 y1 y0 U v1 q' r' → 4294967296 ≤ r' → q' = Q1 := fun hi h2 => by
        have := Hat.out.ql
        rw [HQ1.out, HY10.out]; exact (Half.done hi (by have := Hy1l.out; omega) (Half.wide Hy0l.out (by omega) h2)).symm
      have hnext : Half.Inv 4294967296 y1 y0 U v1 q' r' → ¬ 4294967296 ≤ r' → HalfAt y1 y0 U v1 q' r' := fun hi h2 => ⟨hi, by omega, by have := Hat.out.ql; omega⟩
      have Hmore := Lib.hid hmore; clear hmore
      have Hdone := Lib.hid hdone; clear hdone
      have Hwide := Lib.hid hwide; clear hwide
      have Hnext := Lib.hid hnext; clear hnext
      have kq' : 1 ≤ q → IntKind.u64.wrap ((q : Int) - 1) = (q' : Int) := fun h => by have := Hat.out.ql; rw [IntWalk.u64_in _ (by omega)]; omega
      have hlow : 1 ≤ q → q' < q := fun h => by omega
      have Hlow := Lib.hid hlow; clear hlow
      have Kq' := Lib.hid kq'; clear kq'
      clear hP hN hM hq' hr'
      have dB : (4294967296 ≤ r' ∧ decide ((4294967296 : Int) ≤ (r' : Int)) = true) ∨ (¬ 4294967296 ≤ r' ∧ decide ((4294967296 : Int) ≤ (r' : Int)) = false) := by
        by_cases h : 4294967296 ≤ r'
        · exact .inl ⟨h, by rw [decide_eq_true_iff]; omega⟩
        · exact .inr ⟨h, by rw [decide_eq_false_iff_not]; omega⟩
      have dA : (4294967296 ≤ q ∧ decide ((4294967296 : Int) ≤ (q : Int)) = true) ∨ (¬ 4294967296 ≤ q ∧ decide ((4294967296 : Int) ≤ (q : Int)) = false) := by
        by_cases h : 4294967296 ≤ q
        · exact .inl ⟨h, by rw [decide_eq_true_iff]; omega⟩
        · exact .inr ⟨h, by rw [decide_eq_false_iff_not]; omega⟩
      by_cases hc : 4294967296 ≤ q ∨ N < P
      · obtain ⟨hi2, hq1⟩ := Hmore.out hc
        have Hi2 := Lib.hid hi2; clear hi2
        have kq' := Kq'.out hq1
        have Hc := Lib.hid hc; clear hc
        rcases dA with ⟨hA, dA⟩ | ⟨hA, dA⟩
        · clear hA
          rcases dB with ⟨hB, dB⟩ | ⟨hB, dB⟩
          · have hfin := Lib.hid (Hwide.out Hi2.out hB)
            clear hB
            go_wp2_with fail
            go_meet
            exact ⟨by rw [← hfin.out], rfl⟩
          · have HB := Lib.hid hB; clear hB
            go_wp2_with fail
            go_round
            case rel => exact ⟨q', r', rfl, rfl, Hnext.out Hi2.out HB.out⟩
            case measure => have := Hlow.out hq1; simp [intOf]; omega
        · have hM : N < P := by rcases Hc.out with h | h; exact absurd h hA; exact h
          clear hA
          rcases dB with ⟨hB, dB⟩ | ⟨hB, dB⟩
          · have hfin := Lib.hid (Hwide.out Hi2.out hB)
            clear hB
            go_wp2_with fail
            go_meet
            exact ⟨by rw [← hfin.out], rfl⟩
          · have HB := Lib.hid hB; clear hB
            go_wp2_with fail
            go_round
            case rel => exact ⟨q', r', rfl, rfl, Hnext.out Hi2.out HB.out⟩
            case measure => have := Hlow.out hq1; simp [intOf]; omega
      · have hM : ¬ N < P := fun h => hc (.inr h)
        have hfin := Lib.hid (Hdone.out hM)
        rcases dA with ⟨hA, dA⟩ | ⟨hA, dA⟩
        · exact absurd (.inl hA) hc
        · clear hc hA dB
          go_wp2_with fail
          go_meet
          exact ⟨by rw [← hfin.out], rfl⟩
  case rest =>
    obtain ⟨rfl, rfl⟩ := hcut
    clear Hq Hr kq kp kr Hstart1 Hr32 Hq33
    obtain ⟨R1, hR1⟩ : ∃ R1, R1 = (U * 4294967296 + v1) % Y := ⟨_, rfl⟩
    obtain ⟨Q0, hQ0⟩ : ∃ Q0, Q0 = (R1 * 4294967296 + v0) / Y := ⟨_, rfl⟩
    obtain ⟨R0, hR0⟩ : ∃ R0, R0 = (R1 * 4294967296 + v0) % Y := ⟨_, rfl⟩
    have hYpos : 0 < Y := by have := HUY.out; omega
    have hR1Y : R1 < Y := by rw [hR1]; exact Nat.mod_lt _ hYpos
    have hR0Y : R0 < Y := by rw [hR0]; exact Nat.mod_lt _ hYpos
    have hY64 := HY2.out
    have hboth := Half.both (H := 4294967296) (y := Y) (u := U) (c1 := v1) (c0 := v0) hYpos
    rw [← hR1, ← HQ1.out, ← hQ0, ← hR0] at hboth
    have hUV2 : (U * 4294967296 + v1) * 4294967296 + v0 = (hi * 18446744073709551616 + lo) * 2 ^ s := by
      rw [HUV.out]; have h1 := Hv1.out; have h2 := Hv0.out; omega
    rw [hUV2] at hboth
    have hsc := Half.scaled (x := hi * 18446744073709551616 + lo) (y := y) (Nat.pow_pos (n := s) (show 0 < 2 by omega))
    rw [← HY.out, ← hboth.1, ← hboth.2] at hsc
    have hQ0l : Q0 < 4294967296 := by
      rw [hQ0, Nat.div_lt_iff_lt_mul hYpos]
      have := Hcv0.out
      have h2 : (R1 + 1) * 4294967296 ≤ Y * 4294967296 := Nat.mul_le_mul_right _ hR1Y
      have h3 := Nat.mul_comm Y 4294967296
      omega
    have hQ1l : Q1 < 4294967296 := by
      rw [HQ1.out, Nat.div_lt_iff_lt_mul hYpos]
      have := Hcv1.out
      have h2 : (U + 1) * 4294967296 ≤ Y * 4294967296 := Nat.mul_le_mul_right _ HUY.out
      have h3 := Nat.mul_comm Y 4294967296
      omega
    have kR1 : IntKind.u64.wrap (IntKind.u64.wrap (IntKind.u64.wrap ((U : Int) * 4294967296) + (v1 : Int)) - IntKind.u64.wrap ((Q1 : Int) * (Y : Int))) = (R1 : Int) := by
      have h1 := Nat.div_add_mod (U * 4294967296 + v1) Y
      rw [← hR1, ← HQ1.out, Nat.mul_comm] at h1
      have h2 : ((Q1 : Int) * (Y : Int)) = ((Q1 * Y : Nat) : Int) := by simp
      rw [h2]
      simp only [IntKind.wrap_u64]
      omega
    have kR0 : IntKind.u64.wrap (IntKind.u64.wrap (IntKind.u64.wrap ((R1 : Int) * 4294967296) + (v0 : Int)) - IntKind.u64.wrap ((Q0 : Int) * (Y : Int))) = (R0 : Int) := by
      have h1 := Nat.div_add_mod (R1 * 4294967296 + v0) Y
      rw [← hR0, ← hQ0, Nat.mul_comm] at h1
      have h2 : ((Q0 : Int) * (Y : Int)) = ((Q0 * Y : Nat) : Int) := by simp
      rw [h2]
      simp only [IntKind.wrap_u64]
      omega
    have kQ : IntKind.u64.wrap (IntKind.u64.wrap ((Q1 : Int) * 4294967296) + (Q0 : Int)) = ((Q1 * 4294967296 + Q0 : Nat) : Int) := by
      simp only [IntKind.wrap_u64]
      omega
    obtain ⟨QQ, hQQ⟩ : ∃ QQ, QQ = Q1 * 4294967296 + Q0 := ⟨_, rfl⟩
    rw [← hQQ] at kQ hsc
    obtain ⟨RR, hRR⟩ : ∃ RR, RR = R0 / 2 ^ s := ⟨_, rfl⟩
    have kRR : (R0 : Int) / 2 ^ s = (RR : Int) := by rw [hRR]; simp
    rw [← hRR] at hsc
    have Hsc := Lib.hid hsc
    clear hQQ hRR hsc hboth hUV2
    obtain ⟨q2, hq2⟩ : ∃ q, q = R1 / y1 := ⟨_, rfl⟩
    obtain ⟨r2, hr2⟩ : ∃ r, r = R1 - q2 * y1 := ⟨_, rfl⟩
    have kq2 : (R1 : Int) / (y1 : Int) = (q2 : Int) := by rw [hq2]; simp
    have hqy2 : q2 * y1 ≤ R1 := by rw [hq2]; exact Nat.div_mul_le_self _ _
    have hqb2 : q2 < 18446744073709551616 := by rw [hq2]; exact Nat.lt_of_le_of_lt (Nat.div_le_self _ _) (by omega)
    have kw2 : IntKind.u64.wrap (q2 : Int) = (q2 : Int) := IntWalk.u64_in _ (by omega)
    have kp2 : IntKind.u64.wrap ((q2 : Int) * (y1 : Int)) = ((q2 * y1 : Nat) : Int) := by
      rw [show ((q2 : Int) * (y1 : Int)) = ((q2 * y1 : Nat) : Int) by simp, IntWalk.u64_in _ (by omega)]
    have kr2 : IntKind.u64.wrap ((R1 : Int) - (q2 : Int) * (y1 : Int)) = (r2 : Int) := by
      rw [show ((R1 : Int) - (q2 : Int) * (y1 : Int)) = ((R1 - q2 * y1 : Nat) : Int) by rw [Int.ofNat_sub hqy2]; simp, hr2, IntWalk.u64_in _ (by omega)]
    have hstart2 : Half.Inv 4294967296 y1 y0 R1 v0 q2 r2 := by rw [hr2, hq2]; exact Half.start (by have := Hy1l.out; omega) (by omega) Hcv0.out
    have hr32 : r2 < y1 := by rw [hr2, hq2]; have h1 := Nat.div_add_mod R1 y1; have h2 := Nat.mod_lt R1 (show 0 < y1 by have := Hy1l.out; omega); have h3 := Nat.mul_comm (R1 / y1) y1; omega
    have Hq233 : Hid (q2 ≤ 4294967297) := Lib.hid (Half.q_le Hy0l.out (by have := Hy1l.out; omega) (by rw [← HY10.out]; exact hR1Y) hstart2.eq)
    have Hr232 : Hid (r2 < 4294967296) := Lib.hid (by have := Hy1l.out; omega)
    have Hstart2 := Lib.hid hstart2; clear hstart2
    have HR1Y := Lib.hid hR1Y; clear hR1Y
    have HQ0 := Lib.hid hQ0; clear hQ0
    have HR1 := Lib.hid hR1; clear hR1
    have HR0 := Lib.hid hR0; clear hR0
    clear hq2 hr2 hqy2 hqb2 hr32 hY64 hR0Y hQ0l hQ1l
    go_upto_block 2 with fail
    go_cut [18] (fun s18 wx => s18 = .int .u64 (Q0 : Nat) ∧ w = wx)
    case first =>
      go_wp2_with fail
      go_loop [18, 16] (fun a b => ∃ q r : Nat, a = .int .u64 (q : Nat) ∧ b = .int .u64 (r : Nat) ∧ HalfAt y1 y0 R1 v0 q r) (fun a _ => (intOf a).toNat)
      case atStart => exact ⟨q2, r2, rfl, rfl, ⟨Hstart2.out, Hr232.out, Hq233.out⟩⟩
      case round =>
        obtain ⟨q, r, rfl, rfl, hat⟩ := hrel
        have Hat := Lib.hid hat; clear hat
        obtain ⟨P, hP⟩ : ∃ P, P = q * y0 := ⟨_, rfl⟩
        obtain ⟨N, hN⟩ : ∃ N, N = 4294967296 * r + v0 := ⟨_, rfl⟩
        obtain ⟨M, hM⟩ : ∃ M, M = 4294967296 * r := ⟨_, rfl⟩
        obtain ⟨q', hq'⟩ : ∃ q', q' = q - 1 := ⟨_, rfl⟩
        obtain ⟨r', hr'⟩ : ∃ r', r' = r + y1 := ⟨_, rfl⟩
        have kM : IntKind.u64.wrap (4294967296 * (r : Int)) = (M : Int) := by have := Hat.out.rl; rw [IntWalk.u64_in _ (by omega)]; omega
        have kN : IntKind.u64.wrap ((M : Int) + (v0 : Int)) = (N : Int) := by have := Hat.out.rl; have := Hcv0.out; rw [IntWalk.u64_in _ (by omega)]; omega
        have kr' : IntKind.u64.wrap ((r : Int) + (y1 : Int)) = (r' : Int) := by have := Hat.out.rl; have := Hy1l.out; rw [IntWalk.u64_in _ (by omega)]; omega
        have kP : IntKind.u64.wrap ((q : Int) * (y0 : Int)) = (P : Int) := by
          have hPb : P < 18446744073709551616 := by
            rw [hP]
            have := Nat.mul_le_mul Hat.out.ql (Nat.le_of_lt_succ Hy0l.out)
            omega
          rw [show ((q : Int) * (y0 : Int)) = (P : Int) by rw [hP]; simp, IntWalk.u64_in _ (by omega)]
        have hmore : (4294967296 ≤ q ∨ N < P) → Half.Inv 4294967296 y1 y0 R1 v0 q' r' ∧ 1 ≤ q := fun h => by
          rw [hq', hr']
          exact Half.less Hat.out.inv (by have := Hy1l.out; omega) (by rw [← HY10.out]; exact HR1Y.out) Hcv0.out (by rw [← hP, ← hN]; exact h)
        have hdone : ¬ N < P → q = Q0 := fun h => by rw [HQ0.out, HY10.out]; exact (Half.done Hat.out.inv (by have := Hy1l.out; omega) (by rw [← hP, ← hN]; omega)).symm
        have hwide : Half.Inv 4294967296 y1 y0 R1 v0 q' r' → 4294967296 ≤ r' → q' = Q0 := fun hi h2 => by
          have := Hat.out.ql
          rw [HQ0.out, HY10.out]; exact (Half.done hi (by have := Hy1l.out; omega) (Half.wide Hy0l.out (by omega) h2)).symm
        have hnext : Half.Inv 4294967296 y1 y0 R1 v0 q' r' → ¬ 4294967296 ≤ r' → HalfAt y1 y0 R1 v0 q' r' := fun hi h2 => ⟨hi, by omega, by have := Hat.out.ql; omega⟩
        have Hmore := Lib.hid hmore; clear hmore
        have Hdone := Lib.hid hdone; clear hdone
        have Hwide := Lib.hid hwide; clear hwide
        have Hnext := Lib.hid hnext; clear hnext
        have kq' : 1 ≤ q → IntKind.u64.wrap ((q : Int) - 1) = (q' : Int) := fun h => by have := Hat.out.ql; rw [IntWalk.u64_in _ (by omega)]; omega
        have hlow : 1 ≤ q → q' < q := fun h => by omega
        have Hlow := Lib.hid hlow; clear hlow
        have Kq' := Lib.hid kq'; clear kq'
        clear hP hN hM hq' hr'
        have dB : (4294967296 ≤ r' ∧ decide ((4294967296 : Int) ≤ (r' : Int)) = true) ∨ (¬ 4294967296 ≤ r' ∧ decide ((4294967296 : Int) ≤ (r' : Int)) = false) := by
          by_cases h : 4294967296 ≤ r'
          · exact .inl ⟨h, by rw [decide_eq_true_iff]; omega⟩
          · exact .inr ⟨h, by rw [decide_eq_false_iff_not]; omega⟩
        have dA : (4294967296 ≤ q ∧ decide ((4294967296 : Int) ≤ (q : Int)) = true) ∨ (¬ 4294967296 ≤ q ∧ decide ((4294967296 : Int) ≤ (q : Int)) = false) := by
          by_cases h : 4294967296 ≤ q
          · exact .inl ⟨h, by rw [decide_eq_true_iff]; omega⟩
          · exact .inr ⟨h, by rw [decide_eq_false_iff_not]; omega⟩
        by_cases hc : 4294967296 ≤ q ∨ N < P
        · obtain ⟨hi2, hq1⟩ := Hmore.out hc
          have Hi2 := Lib.hid hi2; clear hi2
          have kq' := Kq'.out hq1
          have Hc := Lib.hid hc; clear hc
          rcases dA with ⟨hA, dA⟩ | ⟨hA, dA⟩
          · clear hA
            rcases dB with ⟨hB, dB⟩ | ⟨hB, dB⟩
            · have hfin := Lib.hid (Hwide.out Hi2.out hB)
              clear hB
              go_wp2_with fail
              go_meet
              exact ⟨by rw [← hfin.out], rfl⟩
            · have HB := Lib.hid hB; clear hB
              go_wp2_with fail
              go_round
              case rel => exact ⟨q', r', rfl, rfl, Hnext.out Hi2.out HB.out⟩
              case measure => have := Hlow.out hq1; simp [intOf]; omega
          · have hM : N < P := by rcases Hc.out with h | h; exact absurd h hA; exact h
            clear hA
            rcases dB with ⟨hB, dB⟩ | ⟨hB, dB⟩
            · have hfin := Lib.hid (Hwide.out Hi2.out hB)
              clear hB
              go_wp2_with fail
              go_meet
              exact ⟨by rw [← hfin.out], rfl⟩
            · have HB := Lib.hid hB; clear hB
              go_wp2_with fail
              go_round
              case rel => exact ⟨q', r', rfl, rfl, Hnext.out Hi2.out HB.out⟩
              case measure => have := Hlow.out hq1; simp [intOf]; omega
        · have hM : ¬ N < P := fun h => hc (.inr h)
          have hfin := Lib.hid (Hdone.out hM)
          rcases dA with ⟨hA, dA⟩ | ⟨hA, dA⟩
          · exact absurd (.inl hA) hc
          · clear hc hA dB
            go_wp2_with fail
            go_meet
            exact ⟨by rw [← hfin.out], rfl⟩
    case rest =>
      obtain ⟨rfl, rfl⟩ := hcut
      go_wp2_with fail
      refine bodyPost_ret (v := .tuple #[.int .u64 QQ, .int .u64 RR]) (by simp [results, Tryd.results129, go_sem]; done) rfl ⟨by rw [Hsc.out.1, Hsc.out.2], 0, rfl⟩

set_option maxRecDepth 100000 in
set_option maxHeartbeats 1600000 in
theorem div64_small (lo y : Nat) (hlo : lo < 18446744073709551616) (h0 : y ≠ 0) (w : World) :
    Calls Tryd.prog 129 #[.int .u64 0, .int .u64 lo, .int .u64 y] w fun e w' => e = .returned (.tuple #[.int .u64 (lo / y : Nat), .int .u64 (lo % y : Nat)]) ∧ ∃ nq, w' = w.drewN nq := by
  have e0 : ((y : Int) == 0) = false := by rw [beq_eq_false_iff_ne]; omega
  obtain ⟨q, hq⟩ : ∃ q, q = lo / y := ⟨_, rfl⟩
  obtain ⟨r, hr⟩ : ∃ r, r = lo % y := ⟨_, rfl⟩
  have kq : (lo : Int) / (y : Int) = (q : Int) := by rw [hq]; simp
  have kr : (lo : Int) % (y : Int) = (r : Int) := by rw [hr]; simp
  have kw : IntKind.u64.wrap (q : Int) = (q : Int) := IntWalk.u64_in _ (by have := Nat.div_le_self lo y; omega)
  rw [← hq, ← hr]
  have Hlo := Lib.hid hlo
  clear hq hr hlo
  go_enter Tryd.func129, Tryd.ntmps129
  go_wp2_with fail
  go_quiet (fail)
  go_wp2_with fail
  refine bodyPost_ret (v := .tuple #[.int .u64 q, .int .u64 r]) (by simp [results, Tryd.results129, go_sem, kr]; done) rfl ⟨rfl, _, rfl⟩

/-- The library's division of two words by one, the quotient fitting a word. -/
theorem div64_any (hi lo y q r : Nat) (hlo : lo < WB) (hy : y < WB) (hhi : hi < y) (hq : q = (hi * WB + lo) / y) (hr : r = (hi * WB + lo) % y) (w : World) :
    Calls Tryd.prog 129 #[.int .u64 hi, .int .u64 lo, .int .u64 y] w fun e w' => e = .returned (.tuple #[.int .u64 (q : Nat), .int .u64 (r : Nat)]) ∧ ∃ nq, w' = w.drewN nq := by
  subst hq hr
  by_cases h0 : hi = 0
  · subst h0
    have := div64_small lo y hlo (by omega) w
    simpa using this
  · exact div64_big hi lo y hlo hy hhi h0 w

end Go.Proofs.YtdjldhkmcmbiiaaDoor
