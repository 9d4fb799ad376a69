/-
  Several texts in one: DivW, DivWord, Shift, DivStep, DivNat.
-/
import Derived.Test.YtbcckgofoknmbaaDoorPWord
import Derived.Test.YtbcckgofoknmbaaDoorPureM
import Derived.Deep.DeepCutAuto
import Derived.Test.YtbcckgofoknmbaaDoorM2
import Derived.Test.YtbcckgofoknmbaaDoorPMul
import Derived.Deep.RegionWith
/-
  The library's division of two words by one.
-/
namespace Go.Proofs.YtbcckgofoknmbaaDoor
open Go.RowKit Num

/-- The guess at a half step's head. -/
structure HalfAt (y1 y0 u c q r : Nat) : Prop where
  inv : Half.Inv 4294967296 y1 y0 u c q r
  rl : r < 4294967296
  ql : q ≤ 4294967297

set_option maxRecDepth 100000 in
set_option maxHeartbeats 1600000 in
theorem div64_big (hi lo y : Nat) (hlo : lo < 18446744073709551616) (hy : y < 18446744073709551616) (hhi : hi < y) (h0 : hi ≠ 0) (w : World) :
    Calls Tryd.prog 61 #[.int .u64 hi, .int .u64 lo, .int .u64 y] w fun e w' => e = .returned (.tuple #[.int .u64 ((hi * 18446744073709551616 + lo) / y : Nat), .int .u64 ((hi * 18446744073709551616 + lo) % y : Nat)]) ∧ ∃ nq, w' = w.drewN nq := by
  obtain ⟨s, hs⟩ : ∃ s, s = lz y := ⟨_, rfl⟩
  have c1 : ∀ W, Calls Tryd.prog 76 #[.int .u64 y] W fun e w' => e = .returned (.int .i64 (s : Nat)) ∧ W = w' := fun W => by rw [hs]; exact lz64 y hy W
  obtain ⟨hs1, hs2, hs3⟩ := lz_spec y (by omega) hy
  rw [← hs] at hs1 hs2 hs3
  have C1 := Lib.hid c1; clear c1
  have Hs := Lib.hid hs; clear hs
  have Hs2 := Lib.hid hs2; clear hs2
  have Hs3 := Lib.hid hs3; clear hs3
  have e0 : ((y : Int) == 0) = false := by rw [beq_eq_false_iff_ne]; omega
  have e1 : decide ((y : Int) ≤ (hi : Int)) = false := by rw [decide_eq_false_iff_not]; omega
  have e2 : ((hi : Int) == 0) = false := by rw [beq_eq_false_iff_ne]; omega
  obtain ⟨Y, hY⟩ : ∃ Y, Y = y * 2 ^ s := ⟨_, rfl⟩
  have kY : IntKind.u64.wrap ((y : Int) * 2 ^ s) = (Y : Int) := by
    have := Hs2.out
    rw [← hY] at this
    have e : ((y : Int) * 2 ^ s) = (Y : Int) := by rw [hY]; simp
    rw [e, IntWalk.u64_in _ (by omega)]
  have HY := Lib.hid hY
  have HY2 : Hid (Y < 18446744073709551616) := Lib.hid (by rw [hY]; exact Hs2.out)
  have HY3 : Hid (9223372036854775808 ≤ Y) := Lib.hid (by rw [hY]; exact Hs3.out)
  clear hY
  obtain ⟨y1, hy1⟩ : ∃ y1, y1 = Y / 4294967296 := ⟨_, rfl⟩
  have ky1 : (Y : Int) / 4294967296 = (y1 : Int) := by omega
  have hy10 : ¬ y1 = 0 := by have := HY3.out; omega
  have Hy1 := Lib.hid hy1; clear hy1
  have Y0 : Hid (∃ y0, y0 = Y % 4294967296) := ⟨_, rfl⟩
  obtain ⟨y0, hy0⟩ := Y0.out
  have ky0 : bits BinOp.and IntKind.u64 (Y : Int) 4294967295 = (y0 : Int) := by
    have := bits_and_u64_nat Y 4294967295 HY2.out (by omega)
    rw [hy0, ← Nat.and_two_pow_sub_one_eq_mod Y 32]
    exact this
  have Hy0 := Lib.hid hy0; clear hy0 Y0
  obtain ⟨H, hH⟩ : ∃ H, H = hi * 2 ^ s := ⟨_, rfl⟩
  have hHl : H < 18446744073709551616 := by
    have h1 := Nat.mul_lt_mul_of_pos_right hhi (Nat.pow_pos (n := s) (show 0 < 2 by omega))
    have h2 := Hs2.out
    omega
  have kH : IntKind.u64.wrap ((hi : Int) * 2 ^ s) = (H : Int) := by
    have e : ((hi : Int) * 2 ^ s) = (H : Int) := by rw [hH]; simp
    rw [e, IntWalk.u64_in _ (by omega)]
  obtain ⟨L, hL⟩ : ∃ L, L = lo / 2 ^ (64 - s) := ⟨_, rfl⟩
  have kL : (lo : Int) / 2 ^ (64 - s) = (L : Int) := by rw [hL]; simp
  have hLl : L < 2 ^ s := by
    rw [hL, Nat.div_lt_iff_lt_mul (Nat.pow_pos (by omega)), ← Step.two_pow_split s (by omega)]; exact hlo
  obtain ⟨U, hU⟩ : ∃ U, U = H + L := ⟨_, rfl⟩
  have hL64 : L < 18446744073709551616 := by rw [hL]; exact Nat.lt_of_le_of_lt (Nat.div_le_self _ _) hlo
  have kU : bits BinOp.or IntKind.u64 (H : Int) (L : Int) = (U : Int) := by
    rw [bits_or_u64_nat H L hHl hL64, hU, hH, Nat.mul_comm, Nat.two_pow_add_eq_or_of_lt hLl]
  obtain ⟨V, hV⟩ : ∃ V, V = lo * 2 ^ s % 18446744073709551616 := ⟨_, rfl⟩
  have kV : IntKind.u64.wrap ((lo : Int) * 2 ^ s) = (V : Int) := by
    have e : ((lo : Int) * 2 ^ s) = ((lo * 2 ^ s : Nat) : Int) := by simp
    rw [e, IntKind.wrap_u64, hV]; omega
  have hVl : V < 18446744073709551616 := by rw [hV]; exact Nat.mod_lt _ (by omega)
  have hUV : (hi * 18446744073709551616 + lo) * 2 ^ s = U * 18446744073709551616 + V := by
    have h1 := (Step.shl_word lo s 0 (by omega) (Nat.pow_pos (by omega))).2
    rw [← hL, ← hV] at h1
    rw [hU, hH, Nat.add_mul, h1, Nat.add_mul]
    have : hi * 18446744073709551616 * 2 ^ s = hi * 2 ^ s * 18446744073709551616 := by rw [Nat.mul_right_comm]
    omega
  have hUY : U < Y := by
    have h1 : (hi * 18446744073709551616 + lo) * 2 ^ s < y * 18446744073709551616 * 2 ^ s := Nat.mul_lt_mul_of_pos_right (by omega) (Nat.pow_pos (by omega))
    have h3 : y * 18446744073709551616 * 2 ^ s = Y * 18446744073709551616 := by rw [HY.out, Nat.mul_right_comm]
    omega
  obtain ⟨v1, hv1⟩ : ∃ v1, v1 = V / 4294967296 := ⟨_, rfl⟩
  have kv1 : (V : Int) / 4294967296 = (v1 : Int) := by omega
  obtain ⟨v0, hv0⟩ : ∃ v0, v0 = V % 4294967296 := ⟨_, rfl⟩
  have kv0 : bits BinOp.and IntKind.u64 (V : Int) 4294967295 = (v0 : Int) := by
    have := bits_and_u64_nat V 4294967295 hVl (by omega)
    rw [hv0, ← Nat.and_two_pow_sub_one_eq_mod V 32]
    exact this
  have hY10 : Y = y1 * 4294967296 + y0 := by have h1 := Hy1.out; have h2 := Hy0.out; omega
  have hv1l : v1 < 4294967296 := by omega
  have hv0l : v0 < 4294967296 := by omega
  have hy0l : y0 < 4294967296 := by have h2 := Hy0.out; omega
  have hy1l : 2147483648 ≤ y1 ∧ y1 < 4294967296 := by have h1 := Hy1.out; have h2 := HY3.out; have h3 := HY2.out; omega
  have Hy1l := Lib.hid hy1l
  have HH := Lib.hid hH; clear hH
  have HL := Lib.hid hL; clear hL
  have HU := Lib.hid hU; clear hU
  have HV := Lib.hid hV; clear hV
  have HUV := Lib.hid hUV; clear hUV
  have HY10 := Lib.hid hY10; clear hY10
  have Hv1 := Lib.hid hv1; clear hv1
  have Hv0 := Lib.hid hv0; clear hv0
  clear hLl hL64 hHl
  obtain ⟨q, hq⟩ : ∃ q, q = U / y1 := ⟨_, rfl⟩
  obtain ⟨r, hr⟩ : ∃ r, r = U - q * y1 := ⟨_, rfl⟩
  have hUl : U < 18446744073709551616 := by have := HY2.out; omega
  have kq : (U : Int) / (y1 : Int) = (q : Int) := by rw [hq]; simp
  have hqy : q * y1 ≤ U := by rw [hq]; exact Nat.div_mul_le_self _ _
  have hqb : q < 18446744073709551616 := by rw [hq]; exact Nat.lt_of_le_of_lt (Nat.div_le_self _ _) hUl
  have kp : IntKind.u64.wrap ((q : Int) * (y1 : Int)) = ((q * y1 : Nat) : Int) := by
    rw [show ((q : Int) * (y1 : Int)) = ((q * y1 : Nat) : Int) by simp, IntWalk.u64_in _ (by omega)]
  have kr : IntKind.u64.wrap ((U : Int) - (q : Int) * (y1 : Int)) = (r : Int) := by
    rw [show ((U : Int) - (q : Int) * (y1 : Int)) = ((U - q * y1 : Nat) : Int) by rw [Int.ofNat_sub hqy]; simp, hr, IntWalk.u64_in _ (by omega)]
  have hstart1 : Half.Inv 4294967296 y1 y0 U v1 q r := by rw [hr, hq]; exact Half.start (by omega) (by omega) hv1l
  have hr32 : r < y1 := by rw [hr, hq]; have := Nat.div_add_mod U y1; have := Nat.mod_lt U (show 0 < y1 by omega); have := Nat.mul_comm (U / y1) y1; omega
  have hq33 : q ≤ 4294967297 := Half.q_le hy0l (by omega) (by rw [← HY10.out]; exact hUY) hstart1.eq
  have Hstart1 := Lib.hid hstart1; clear hstart1
  obtain ⟨Q1, hQ1⟩ : ∃ Q1, Q1 = (U * 4294967296 + v1) / Y := ⟨_, rfl⟩
  have HQ1 := Lib.hid hQ1; clear hQ1
  have Hq := Lib.hid hq; clear hq
  have Hr := Lib.hid hr; clear hr
  clear hqy
  go_enter Tryd.func61, Tryd.ntmps61
  go_upto_block 0 with (go_at_call 76; refine (C1.out _).mono ?_; rintro e w' ⟨rfl, rfl⟩)
  have Hcv1 := Lib.hid hv1l; clear hv1l
  have Hcv0 := Lib.hid hv0l; clear hv0l
  have Hy0l := Lib.hid hy0l; clear hy0l
  have HUY := Lib.hid hUY; clear hUY
  have Hr32 : Hid (r < 4294967296) := Lib.hid (by omega)
  clear hr32
  have Hq33 := Lib.hid hq33; clear hq33
  have Hlo := Lib.hid hlo; clear hlo
  have Hy := Lib.hid hy; clear hy
  have Hhi := Lib.hid hhi; clear hhi
  clear hVl hUl hqb hy1l
  go_cut [15] (fun s15 wx => s15 = .int .u64 (Q1 : Nat) ∧ w = wx)
  case first =>
    go_wp2_with fail
    go_loop [15, 16] (fun a b => ∃ q r : Nat, a = .int .u64 (q : Nat) ∧ b = .int .u64 (r : Nat) ∧ HalfAt y1 y0 U v1 q r) (fun a _ => (intOf a).toNat)
    case atStart => exact ⟨q, r, rfl, rfl, ⟨Hstart1.out, Hr32.out, Hq33.out⟩⟩
    case round =>
      obtain ⟨q, r, rfl, rfl, hat⟩ := hrel
      have Hat := Lib.hid hat; clear hat
      obtain ⟨P, hP⟩ : ∃ P, P = q * y0 := ⟨_, rfl⟩
      obtain ⟨N, hN⟩ : ∃ N, N = 4294967296 * r + v1 := ⟨_, rfl⟩
      obtain ⟨M, hM⟩ : ∃ M, M = 4294967296 * r := ⟨_, rfl⟩
      obtain ⟨q', hq'⟩ : ∃ q', q' = q - 1 := ⟨_, rfl⟩
      obtain ⟨r', hr'⟩ : ∃ r', r' = r + y1 := ⟨_, rfl⟩
      have kM : IntKind.u64.wrap (4294967296 * (r : Int)) = (M : Int) := by have := Hat.out.rl; rw [IntWalk.u64_in _ (by omega)]; omega
      have kN : IntKind.u64.wrap ((M : Int) + (v1 : Int)) = (N : Int) := by have := Hat.out.rl; have := Hcv1.out; rw [IntWalk.u64_in _ (by omega)]; omega
      have kr' : IntKind.u64.wrap ((r : Int) + (y1 : Int)) = (r' : Int) := by have := Hat.out.rl; have := Hy1l.out; rw [IntWalk.u64_in _ (by omega)]; omega
      have kP : IntKind.u64.wrap ((q : Int) * (y0 : Int)) = (P : Int) := by
        have hPb : P < 18446744073709551616 := by
          rw [hP]
          have := Nat.mul_le_mul Hat.out.ql (Nat.le_of_lt_succ Hy0l.out)
          omega
        rw [show ((q : Int) * (y0 : Int)) = (P : Int) by rw [hP]; simp, IntWalk.u64_in _ (by omega)]
      have hmore : (4294967296 ≤ q ∨ N < P) → Half.Inv 4294967296 y1 y0 U v1 q' r' ∧ 1 ≤ q := fun h => by
        rw [hq', hr']
        exact Half.less Hat.out.inv (by have := Hy1l.out; omega) (by rw [← HY10.out]; exact HUY.out) Hcv1.out (by rw [← hP, ← hN]; exact h)
      have hdone : ¬ N < P → q = Q1 := fun h => by rw [HQ1.out, HY10.out]; exact (Half.done Hat.out.inv (by have := Hy1l.out; omega) (by rw [← hP, ← hN]; omega)).symm
      have hwide : Half.Inv 4294967296 y1 y0 U v1 q' r' → 4294967296 ≤ r' → q' = Q1 := fun hi h2 => by
        have := Hat.out.ql
        rw [HQ1.out, HY10.out]; exact (Half.done hi (by have := Hy1l.out; omega) (Half.wide Hy0l.out (by omega) h2)).symm
      have hnext : Half.Inv 4294967296 y1 y0 U v1 q' r' → ¬ 4294967296 ≤ r' → HalfAt y1 y0 U v1 q' r' := fun hi h2 => ⟨hi, by omega, by have := Hat.out.ql; omega⟩
      have Hmore := Lib.hid hmore; clear hmore
      have Hdone := Lib.hid hdone; clear hdone
      have Hwide := Lib.hid hwide; clear hwide
      have Hnext := Lib.hid hnext; clear hnext
      have kq' : 1 ≤ q → IntKind.u64.wrap ((q : Int) - 1) = (q' : Int) := fun h => by have := Hat.out.ql; rw [IntWalk.u64_in _ (by omega)]; omega
      have hlow : 1 ≤ q → q' < q := fun h => by omega
      have Hlow := Lib.hid hlow; clear hlow
      have Kq' := Lib.hid kq'; clear kq'
      clear hP hN hM hq' hr'
      have dB : (4294967296 ≤ r' ∧ decide ((4294967296 : Int) ≤ (r' : Int)) = true) ∨ (¬ 4294967296 ≤ r' ∧ decide ((4294967296 : Int) ≤ (r' : Int)) = false) := by
        by_cases h : 4294967296 ≤ r'
        · exact .inl ⟨h, by rw [decide_eq_true_iff]; omega⟩
        · exact .inr ⟨h, by rw [decide_eq_false_iff_not]; omega⟩
      have dA : (4294967296 ≤ q ∧ decide ((4294967296 : Int) ≤ (q : Int)) = true) ∨ (¬ 4294967296 ≤ q ∧ decide ((4294967296 : Int) ≤ (q : Int)) = false) := by
        by_cases h : 4294967296 ≤ q
        · exact .inl ⟨h, by rw [decide_eq_true_iff]; omega⟩
        · exact .inr ⟨h, by rw [decide_eq_false_iff_not]; omega⟩
      by_cases hc : 4294967296 ≤ q ∨ N < P
      · obtain ⟨hi2, hq1⟩ := Hmore.out hc
        have Hi2 := Lib.hid hi2; clear hi2
        have kq' := Kq'.out hq1
        have Hc := Lib.hid hc; clear hc
        rcases dA with ⟨hA, dA⟩ | ⟨hA, dA⟩
        · clear hA
          rcases dB with ⟨hB, dB⟩ | ⟨hB, dB⟩
          · have hfin := Lib.hid (Hwide.out Hi2.out hB)
            clear hB
            go_wp2_with fail
            go_meet
            exact ⟨by rw [← hfin.out], rfl⟩
          · have HB := Lib.hid hB; clear hB
            go_wp2_with fail
            go_round
            case rel => exact ⟨q', r', rfl, rfl, Hnext.out Hi2.out HB.out⟩
            case measure => have := Hlow.out hq1; simp [intOf]; omega
        · have hM : N < P := by rcases Hc.out with h | h; exact absurd h hA; exact h
          clear hA
          rcases dB with ⟨hB, dB⟩ | ⟨hB, dB⟩
          · have hfin := Lib.hid (Hwide.out Hi2.out hB)
            clear hB
            go_wp2_with fail
            go_meet
            exact ⟨by rw [← hfin.out], rfl⟩
          · have HB := Lib.hid hB; clear hB
            go_wp2_with fail
            go_round
            case rel => exact ⟨q', r', rfl, rfl, Hnext.out Hi2.out HB.out⟩
            case measure => have := Hlow.out hq1; simp [intOf]; omega
      · have hM : ¬ N < P := fun h => hc (.inr h)
        have hfin := Lib.hid (Hdone.out hM)
        rcases dA with ⟨hA, dA⟩ | ⟨hA, dA⟩
        · exact absurd (.inl hA) hc
        · clear hc hA dB
          go_wp2_with fail
          go_meet
          exact ⟨by rw [← hfin.out], rfl⟩
  case rest =>
    obtain ⟨rfl, rfl⟩ := hcut
    clear Hq Hr kq kp kr Hstart1 Hr32 Hq33
    obtain ⟨R1, hR1⟩ : ∃ R1, R1 = (U * 4294967296 + v1) % Y := ⟨_, rfl⟩
    obtain ⟨Q0, hQ0⟩ : ∃ Q0, Q0 = (R1 * 4294967296 + v0) / Y := ⟨_, rfl⟩
    obtain ⟨R0, hR0⟩ : ∃ R0, R0 = (R1 * 4294967296 + v0) % Y := ⟨_, rfl⟩
    have hYpos : 0 < Y := by have := HUY.out; omega
    have hR1Y : R1 < Y := by rw [hR1]; exact Nat.mod_lt _ hYpos
    have hR0Y : R0 < Y := by rw [hR0]; exact Nat.mod_lt _ hYpos
    have hY64 := HY2.out
    have hboth := Half.both (H := 4294967296) (y := Y) (u := U) (c1 := v1) (c0 := v0) hYpos
    rw [← hR1, ← HQ1.out, ← hQ0, ← hR0] at hboth
    have hUV2 : (U * 4294967296 + v1) * 4294967296 + v0 = (hi * 18446744073709551616 + lo) * 2 ^ s := by
      rw [HUV.out]; have h1 := Hv1.out; have h2 := Hv0.out; omega
    rw [hUV2] at hboth
    have hsc := Half.scaled (x := hi * 18446744073709551616 + lo) (y := y) (Nat.pow_pos (n := s) (show 0 < 2 by omega))
    rw [← HY.out, ← hboth.1, ← hboth.2] at hsc
    have hQ0l : Q0 < 4294967296 := by
      rw [hQ0, Nat.div_lt_iff_lt_mul hYpos]
      have := Hcv0.out
      have h2 : (R1 + 1) * 4294967296 ≤ Y * 4294967296 := Nat.mul_le_mul_right _ hR1Y
      have h3 := Nat.mul_comm Y 4294967296
      omega
    have hQ1l : Q1 < 4294967296 := by
      rw [HQ1.out, Nat.div_lt_iff_lt_mul hYpos]
      have := Hcv1.out
      have h2 : (U + 1) * 4294967296 ≤ Y * 4294967296 := Nat.mul_le_mul_right _ HUY.out
      have h3 := Nat.mul_comm Y 4294967296
      omega
    have kR1 : IntKind.u64.wrap (IntKind.u64.wrap (IntKind.u64.wrap ((U : Int) * 4294967296) + (v1 : Int)) - IntKind.u64.wrap ((Q1 : Int) * (Y : Int))) = (R1 : Int) := by
      have h1 := Nat.div_add_mod (U * 4294967296 + v1) Y
      rw [← hR1, ← HQ1.out, Nat.mul_comm] at h1
      have h2 : ((Q1 : Int) * (Y : Int)) = ((Q1 * Y : Nat) : Int) := by simp
      rw [h2]
      simp only [IntKind.wrap_u64]
      omega
    have kR0 : IntKind.u64.wrap (IntKind.u64.wrap (IntKind.u64.wrap ((R1 : Int) * 4294967296) + (v0 : Int)) - IntKind.u64.wrap ((Q0 : Int) * (Y : Int))) = (R0 : Int) := by
      have h1 := Nat.div_add_mod (R1 * 4294967296 + v0) Y
      rw [← hR0, ← hQ0, Nat.mul_comm] at h1
      have h2 : ((Q0 : Int) * (Y : Int)) = ((Q0 * Y : Nat) : Int) := by simp
      rw [h2]
      simp only [IntKind.wrap_u64]
      omega
    have kQ : IntKind.u64.wrap (IntKind.u64.wrap ((Q1 : Int) * 4294967296) + (Q0 : Int)) = ((Q1 * 4294967296 + Q0 : Nat) : Int) := by
      simp only [IntKind.wrap_u64]
      omega
    obtain ⟨QQ, hQQ⟩ : ∃ QQ, QQ = Q1 * 4294967296 + Q0 := ⟨_, rfl⟩
    rw [← hQQ] at kQ hsc
    obtain ⟨RR, hRR⟩ : ∃ RR, RR = R0 / 2 ^ s := ⟨_, rfl⟩
    have kRR : (R0 : Int) / 2 ^ s = (RR : Int) := by rw [hRR]; simp
    rw [← hRR] at hsc
    have Hsc := Lib.hid hsc
    clear hQQ hRR hsc hboth hUV2
    obtain ⟨q2, hq2⟩ : ∃ q, q = R1 / y1 := ⟨_, rfl⟩
    obtain ⟨r2, hr2⟩ : ∃ r, r = R1 - q2 * y1 := ⟨_, rfl⟩
    have kq2 : (R1 : Int) / (y1 : Int) = (q2 : Int) := by rw [hq2]; simp
    have hqy2 : q2 * y1 ≤ R1 := by rw [hq2]; exact Nat.div_mul_le_self _ _
    have hqb2 : q2 < 18446744073709551616 := by rw [hq2]; exact Nat.lt_of_le_of_lt (Nat.div_le_self _ _) (by omega)
    have kw2 : IntKind.u64.wrap (q2 : Int) = (q2 : Int) := IntWalk.u64_in _ (by omega)
    have kp2 : IntKind.u64.wrap ((q2 : Int) * (y1 : Int)) = ((q2 * y1 : Nat) : Int) := by
      rw [show ((q2 : Int) * (y1 : Int)) = ((q2 * y1 : Nat) : Int) by simp, IntWalk.u64_in _ (by omega)]
    have kr2 : IntKind.u64.wrap ((R1 : Int) - (q2 : Int) * (y1 : Int)) = (r2 : Int) := by
      rw [show ((R1 : Int) - (q2 : Int) * (y1 : Int)) = ((R1 - q2 * y1 : Nat) : Int) by rw [Int.ofNat_sub hqy2]; simp, hr2, IntWalk.u64_in _ (by omega)]
    have hstart2 : Half.Inv 4294967296 y1 y0 R1 v0 q2 r2 := by rw [hr2, hq2]; exact Half.start (by have := Hy1l.out; omega) (by omega) Hcv0.out
    have hr32 : r2 < y1 := by rw [hr2, hq2]; have h1 := Nat.div_add_mod R1 y1; have h2 := Nat.mod_lt R1 (show 0 < y1 by have := Hy1l.out; omega); have h3 := Nat.mul_comm (R1 / y1) y1; omega
    have Hq233 : Hid (q2 ≤ 4294967297) := Lib.hid (Half.q_le Hy0l.out (by have := Hy1l.out; omega) (by rw [← HY10.out]; exact hR1Y) hstart2.eq)
    have Hr232 : Hid (r2 < 4294967296) := Lib.hid (by have := Hy1l.out; omega)
    have Hstart2 := Lib.hid hstart2; clear hstart2
    have HR1Y := Lib.hid hR1Y; clear hR1Y
    have HQ0 := Lib.hid hQ0; clear hQ0
    have HR1 := Lib.hid hR1; clear hR1
    have HR0 := Lib.hid hR0; clear hR0
    clear hq2 hr2 hqy2 hqb2 hr32 hY64 hR0Y hQ0l hQ1l
    go_upto_block 2 with fail
    go_cut [18] (fun s18 wx => s18 = .int .u64 (Q0 : Nat) ∧ w = wx)
    case first =>
      go_wp2_with fail
      go_loop [18, 16] (fun a b => ∃ q r : Nat, a = .int .u64 (q : Nat) ∧ b = .int .u64 (r : Nat) ∧ HalfAt y1 y0 R1 v0 q r) (fun a _ => (intOf a).toNat)
      case atStart => exact ⟨q2, r2, rfl, rfl, ⟨Hstart2.out, Hr232.out, Hq233.out⟩⟩
      case round =>
        obtain ⟨q, r, rfl, rfl, hat⟩ := hrel
        have Hat := Lib.hid hat; clear hat
        obtain ⟨P, hP⟩ : ∃ P, P = q * y0 := ⟨_, rfl⟩
        obtain ⟨N, hN⟩ : ∃ N, N = 4294967296 * r + v0 := ⟨_, rfl⟩
        obtain ⟨M, hM⟩ : ∃ M, M = 4294967296 * r := ⟨_, rfl⟩
        obtain ⟨q', hq'⟩ : ∃ q', q' = q - 1 := ⟨_, rfl⟩
        obtain ⟨r', hr'⟩ : ∃ r', r' = r + y1 := ⟨_, rfl⟩
        have kM : IntKind.u64.wrap (4294967296 * (r : Int)) = (M : Int) := by have := Hat.out.rl; rw [IntWalk.u64_in _ (by omega)]; omega
        have kN : IntKind.u64.wrap ((M : Int) + (v0 : Int)) = (N : Int) := by have := Hat.out.rl; have := Hcv0.out; rw [IntWalk.u64_in _ (by omega)]; omega
        have kr' : IntKind.u64.wrap ((r : Int) + (y1 : Int)) = (r' : Int) := by have := Hat.out.rl; have := Hy1l.out; rw [IntWalk.u64_in _ (by omega)]; omega
        have kP : IntKind.u64.wrap ((q : Int) * (y0 : Int)) = (P : Int) := by
          have hPb : P < 18446744073709551616 := by
            rw [hP]
            have := Nat.mul_le_mul Hat.out.ql (Nat.le_of_lt_succ Hy0l.out)
            omega
          rw [show ((q : Int) * (y0 : Int)) = (P : Int) by rw [hP]; simp, IntWalk.u64_in _ (by omega)]
        have hmore : (4294967296 ≤ q ∨ N < P) → Half.Inv 4294967296 y1 y0 R1 v0 q' r' ∧ 1 ≤ q := fun h => by
          rw [hq', hr']
          exact Half.less Hat.out.inv (by have := Hy1l.out; omega) (by rw [← HY10.out]; exact HR1Y.out) Hcv0.out (by rw [← hP, ← hN]; exact h)
        have hdone : ¬ N < P → q = Q0 := fun h => by rw [HQ0.out, HY10.out]; exact (Half.done Hat.out.inv (by have := Hy1l.out; omega) (by rw [← hP, ← hN]; omega)).symm
        have hwide : Half.Inv 4294967296 y1 y0 R1 v0 q' r' → 4294967296 ≤ r' → q' = Q0 := fun hi h2 => by
          have := Hat.out.ql
          rw [HQ0.out, HY10.out]; exact (Half.done hi (by have := Hy1l.out; omega) (Half.wide Hy0l.out (by omega) h2)).symm
        have hnext : Half.Inv 4294967296 y1 y0 R1 v0 q' r' → ¬ 4294967296 ≤ r' → HalfAt y1 y0 R1 v0 q' r' := fun hi h2 => ⟨hi, by omega, by have := Hat.out.ql; omega⟩
        have Hmore := Lib.hid hmore; clear hmore
        have Hdone := Lib.hid hdone; clear hdone
        have Hwide := Lib.hid hwide; clear hwide
        have Hnext := Lib.hid hnext; clear hnext
        have kq' : 1 ≤ q → IntKind.u64.wrap ((q : Int) - 1) = (q' : Int) := fun h => by have := Hat.out.ql; rw [IntWalk.u64_in _ (by omega)]; omega
        have hlow : 1 ≤ q → q' < q := fun h => by omega
        have Hlow := Lib.hid hlow; clear hlow
        have Kq' := Lib.hid kq'; clear kq'
        clear hP hN hM hq' hr'
        have dB : (4294967296 ≤ r' ∧ decide ((4294967296 : Int) ≤ (r' : Int)) = true) ∨ (¬ 4294967296 ≤ r' ∧ decide ((4294967296 : Int) ≤ (r' : Int)) = false) := by
          by_cases h : 4294967296 ≤ r'
          · exact .inl ⟨h, by rw [decide_eq_true_iff]; omega⟩
          · exact .inr ⟨h, by rw [decide_eq_false_iff_not]; omega⟩
        have dA : (4294967296 ≤ q ∧ decide ((4294967296 : Int) ≤ (q : Int)) = true) ∨ (¬ 4294967296 ≤ q ∧ decide ((4294967296 : Int) ≤ (q : Int)) = false) := by
          by_cases h : 4294967296 ≤ q
          · exact .inl ⟨h, by rw [decide_eq_true_iff]; omega⟩
          · exact .inr ⟨h, by rw [decide_eq_false_iff_not]; omega⟩
        by_cases hc : 4294967296 ≤ q ∨ N < P
        · obtain ⟨hi2, hq1⟩ := Hmore.out hc
          have Hi2 := Lib.hid hi2; clear hi2
          have kq' := Kq'.out hq1
          have Hc := Lib.hid hc; clear hc
          rcases dA with ⟨hA, dA⟩ | ⟨hA, dA⟩
          · clear hA
            rcases dB with ⟨hB, dB⟩ | ⟨hB, dB⟩
            · have hfin := Lib.hid (Hwide.out Hi2.out hB)
              clear hB
              go_wp2_with fail
              go_meet
              exact ⟨by rw [← hfin.out], rfl⟩
            · have HB := Lib.hid hB; clear hB
              go_wp2_with fail
              go_round
              case rel => exact ⟨q', r', rfl, rfl, Hnext.out Hi2.out HB.out⟩
              case measure => have := Hlow.out hq1; simp [intOf]; omega
          · have hM : N < P := by rcases Hc.out with h | h; exact absurd h hA; exact h
            clear hA
            rcases dB with ⟨hB, dB⟩ | ⟨hB, dB⟩
            · have hfin := Lib.hid (Hwide.out Hi2.out hB)
              clear hB
              go_wp2_with fail
              go_meet
              exact ⟨by rw [← hfin.out], rfl⟩
            · have HB := Lib.hid hB; clear hB
              go_wp2_with fail
              go_round
              case rel => exact ⟨q', r', rfl, rfl, Hnext.out Hi2.out HB.out⟩
              case measure => have := Hlow.out hq1; simp [intOf]; omega
        · have hM : ¬ N < P := fun h => hc (.inr h)
          have hfin := Lib.hid (Hdone.out hM)
          rcases dA with ⟨hA, dA⟩ | ⟨hA, dA⟩
          · exact absurd (.inl hA) hc
          · clear hc hA dB
            go_wp2_with fail
            go_meet
            exact ⟨by rw [← hfin.out], rfl⟩
    case rest =>
      obtain ⟨rfl, rfl⟩ := hcut
      go_wp2_with fail
      refine bodyPost_ret (v := .tuple #[.int .u64 QQ, .int .u64 RR]) (by simp [results, Tryd.results61, go_sem]; done) rfl ⟨by rw [Hsc.out.1, Hsc.out.2], 0, rfl⟩

set_option maxRecDepth 100000 in
set_option maxHeartbeats 1600000 in
theorem div64_small (lo y : Nat) (hlo : lo < 18446744073709551616) (h0 : y ≠ 0) (w : World) :
    Calls Tryd.prog 61 #[.int .u64 0, .int .u64 lo, .int .u64 y] w fun e w' => e = .returned (.tuple #[.int .u64 (lo / y : Nat), .int .u64 (lo % y : Nat)]) ∧ ∃ nq, w' = w.drewN nq := by
  have e0 : ((y : Int) == 0) = false := by rw [beq_eq_false_iff_ne]; omega
  obtain ⟨q, hq⟩ : ∃ q, q = lo / y := ⟨_, rfl⟩
  obtain ⟨r, hr⟩ : ∃ r, r = lo % y := ⟨_, rfl⟩
  have kq : (lo : Int) / (y : Int) = (q : Int) := by rw [hq]; simp
  have kr : (lo : Int) % (y : Int) = (r : Int) := by rw [hr]; simp
  have kw : IntKind.u64.wrap (q : Int) = (q : Int) := IntWalk.u64_in _ (by have := Nat.div_le_self lo y; omega)
  rw [← hq, ← hr]
  have Hlo := Lib.hid hlo
  clear hq hr hlo
  go_enter Tryd.func61, Tryd.ntmps61
  go_wp2_with fail
  go_quiet (fail)
  go_wp2_with fail
  refine bodyPost_ret (v := .tuple #[.int .u64 q, .int .u64 r]) (by simp [results, Tryd.results61, go_sem, kr]; done) rfl ⟨rfl, _, rfl⟩

/-- The library's division of two words by one, the quotient fitting a word. -/
theorem div64_any (hi lo y q r : Nat) (hlo : lo < WB) (hy : y < WB) (hhi : hi < y) (hq : q = (hi * WB + lo) / y) (hr : r = (hi * WB + lo) % y) (w : World) :
    Calls Tryd.prog 61 #[.int .u64 hi, .int .u64 lo, .int .u64 y] w fun e w' => e = .returned (.tuple #[.int .u64 (q : Nat), .int .u64 (r : Nat)]) ∧ ∃ nq, w' = w.drewN nq := by
  subst hq hr
  by_cases h0 : hi = 0
  · subst h0
    have := div64_small lo y hlo (by omega) w
    simpa using this
  · exact div64_big hi lo y hlo hy hhi h0 w

end Go.Proofs.YtbcckgofoknmbaaDoor
/-
  The program's division of a number by a word.
-/
namespace Go.Proofs.YtbcckgofoknmbaaDoor
open Go.RowKit Num

theorem own_rowW {w : World} {base g : Nat} {t : TypeId} {n cap : Nat} {xs : List Nat} (h : w.ownsRow base t 1 (.slice (some ⟨g, 0, none⟩) n cap) n (xs.map fun x => .int .u64 (x : Nat))) : RowW t w g 0 xs := by
  obtain ⟨h1, h2⟩ := h
  rcases h2 with ⟨h2, _⟩ | ⟨g', cap', cur, hv, _, hh, _, _, _, ht⟩
  · cases h2
  · injection hv with hv
    injection hv with hv
    injection hv with hv
    subst hv
    refine ⟨cur, hh, fun j hj => ?_⟩
    have hl : xs.length = n := by simpa using h1
    have e : (cur.toList.take (n * 1))[j]? = (xs.map fun x => Value.int .u64 (x : Nat))[j]? := by rw [ht]
    rw [List.getElem?_take, if_pos (by omega), List.getElem?_map] at e
    rw [Nat.zero_add, ← Array.getElem?_toList, e, List.getElem?_eq_getElem hj]
    simp [List.getD, hj]

theorem Tryd.info_u64p : (Tryd.prog.info? 64).map (fun i => (i.zero, i.size, i.bytes)) = some (some (.int .u64 0), 1, 8) := by kernel_rfl

theorem div_next_b (b x y k : Nat) (hb : 2 ≤ b) (hy : 0 < y) : x / b ^ k / y = b * (x / b ^ (k + 1) / y) + (x / b ^ (k + 1) % y * b + dg b x k) / y ∧ x / b ^ k % y = (x / b ^ (k + 1) % y * b + dg b x k) % y := by
  have e1 : x / b ^ k = b * (x / b ^ (k + 1)) + dg b x k := by
    rw [dg_eq b hb, Nat.pow_succ, ← Nat.div_div_eq_div_mul]
    exact (Nat.div_add_mod _ _).symm
  have e2 := Nat.div_add_mod (x / b ^ (k + 1)) y
  obtain ⟨Q, hQ⟩ : ∃ Q, Q = x / b ^ (k + 1) / y := ⟨_, rfl⟩
  obtain ⟨R, hR⟩ : ∃ R, R = x / b ^ (k + 1) % y := ⟨_, rfl⟩
  rw [← hQ, ← hR] at e2 ⊢
  have e3 : x / b ^ k = (R * b + dg b x k) + y * (b * Q) := by
    rw [e1, ← e2, Nat.mul_add, Nat.mul_left_comm, Nat.mul_comm b R]; omega
  rw [e3, Nat.add_mul_div_left _ _ hy, Nat.add_mul_mod_self_left]
  exact ⟨by omega, rfl⟩

theorem quo_lt {b r d y : Nat} (hr : r < y) (hd : d < b) : (r * b + d) / y < b := by
  apply Nat.div_lt_of_lt_mul
  have h : (r + 1) * b ≤ y * b := Nat.mul_le_mul_right _ hr
  rw [Nat.add_mul, Nat.one_mul] at h
  omega

theorem rep_dig (n : Nat) : Dig WB (List.replicate n 0) := fun x hx => by rw [List.eq_of_mem_replicate hx]; unfold WB; omega

set_option maxRecDepth 100000 in
set_option maxHeartbeats 1600000 in
theorem divWord_new (va : Value) (x y : Nat) (w : World) (ha : Nums 64 .u64 WB w va x) (hy : 0 < y) (hyb : y < WB) (hlx : ln WB x ≤ 1099511627776) :
    Calls Tryd.prog 40 #[va, .int .u64 (y : Nat)] w fun e w' => (∃ v, e = .returned (.tuple #[v, .int .u64 (x % y : Nat)]) ∧ Nums 64 .u64 WB w' v (x / y) ∧ v.ownBlock = some w.heap.size) ∧ Below w.heap.size w w' := by
  obtain ⟨i0, hi, hz0, hz1, hz2⟩ := info_parts Tryd.info_u64p
  obtain ⟨Aa, ca, rfl, hca, hca', _⟩ := RowF.open ha
  have h2 := WB_two
  have HA := Lib.hid ha; clear ha
  obtain ⟨la, hla⟩ : ∃ la, la = ln WB x := ⟨_, rfl⟩
  rw [← hla] at HA hca hlx ⊢
  have Hla := Lib.hid hla; clear hla
  have Hyb := Lib.hid hyb; clear hyb
  go_enter Tryd.func40, Tryd.ntmps40
  go_wp2_with (at_make; refine wpList_make_full _ rfl _ _ 41 rfl w.heap.size 64 i0 (.int .u64 0) 1 Tryd.underlying41 hi hz0 hz1 _ _ _ _ la rfl rfl (by omega) (by omega) ?b2 ?b3 (Nat.le_refl _) ?_)
  case b2 => rw [hz2]; omega
  case b3 => unfold maxLen; omega
  intro w0 hown0 hgrow0
  have hrow0 := own_rowW (made_own hown0)
  have hbel0 : Below w.heap.size w w0 := (Below.refl _ _).grown hgrow0 (Nat.le_refl _) (fun k h => by cases h)
  clear hown0 hgrow0
  go_wp2_with fail
  go_loopw [7, 8] (fun rv i wr => ∃ (k r : Nat) (ys : List Nat), rv = .int .u64 (r : Nat) ∧ i = .int .i64 ((k : Int) - 1) ∧ k ≤ la ∧ r = x / WB ^ k % y ∧ ys.length = la ∧ Dig WB ys ∧ val WB (ys.drop k) = x / WB ^ k / y ∧ RowW 64 wr w.heap.size 0 ys ∧ Below w.heap.size w wr) (fun _ i _ => ((intOf i) + 1).toNat)
  case atStart =>
    have hdone : x / WB ^ la = 0 := Nat.div_eq_of_lt (by rw [Hla.out]; exact lt_pow_ln WB x h2)
    exact ⟨la, 0, _, rfl, rfl, by omega, by rw [hdone]; simp, by simp, rep_dig _, by rw [List.drop_of_length_le (by simp), hdone]; simp [val], hrow0, hbel0⟩
  case round =>
    clear hrow0 hbel0
    obtain ⟨k, r, ys, rfl, rfl, hkl, hr, hlen, hdig, hval, hrow, hbel⟩ := hrel
    have Hlen := Lib.hid hlen; clear hlen
    have Hdig := Lib.hid hdig; clear hdig
    have Hval := Lib.hid hval; clear hval
    have Hrow := Lib.hid hrow; clear hrow
    have Hbel := Lib.hid hbel; clear hbel
    have Hr := Lib.hid hr; clear hr
    by_cases hk0 : 1 ≤ k
    · obtain ⟨q, rfl⟩ : ∃ q, k = q + 1 := ⟨k - 1, by omega⟩
      obtain ⟨bb, ob, rfl, hcB⟩ := (HA.out.below Hbel.out (Nat.le_refl _)).get Hla.out (show q < la by omega)
      obtain ⟨D, hD⟩ : ∃ D, D = dg WB x q := ⟨_, rfl⟩
      rw [← hD] at hcB
      have hDb : D < WB := by rw [hD]; exact dg_lt _ _ _ h2
      have hry : r < y := by rw [Hr.out]; exact Nat.mod_lt _ hy
      obtain ⟨d', hd'⟩ : ∃ d', d' = (r * WB + D) / y := ⟨_, rfl⟩
      obtain ⟨r', hr'⟩ : ∃ r', r' = (r * WB + D) % y := ⟨_, rfl⟩
      have hd2 : d' < WB := by rw [hd']; exact quo_lt hry hDb
      have C1 := Lib.hid (div64_any r D y d' r' hDb Hyb.out hry hd' hr')
      have hstep := div_next_b WB x y q h2 hy
      rw [← Hr.out, ← hD, ← hd', ← hr'] at hstep
      have Hstep := Lib.hid hstep; clear hstep
      have hkl2 : 0 + q < 0 + ys.length := by rw [Hlen.out]; omega
      have hcA : wr.cell? ⟨w.heap.size, q, none⟩ = some (.int .u64 (ys.getD q 0 : Nat)) := by have := Hrow.out.cell (j := q) (by omega); rwa [Nat.zero_add] at this
      have hfA : wr.frozen? ⟨w.heap.size, q, none⟩ = false := Hrow.out.free _
      have Hrow2 : ∀ n : Nat, RowW 64 ((wr.drewN n).setCell ⟨w.heap.size, q, none⟩ (.int .u64 (d' : Nat))) w.heap.size 0 (ys.set q d') := fun n => by
        have := (Hrow.out.drewN n).set q (by omega) d'; rwa [Nat.zero_add] at this
      have Hrow3 := Lib.hid Hrow2; clear Hrow2
      have Hbel2 : ∀ n : Nat, Below w.heap.size w ((wr.drewN n).setCell ⟨w.heap.size, q, none⟩ (.int .u64 (d' : Nat))) := fun n => (below_drewN n Hbel.out).setCell (Nat.le_refl _) _
      have Hbel3 := Lib.hid Hbel2; clear Hbel2
      have hnew : val WB ((ys.set q d').drop q) = x / WB ^ q / y := by
        rw [val_drop_step _ _ _ (by rw [List.length_set]; omega), List.getElem_set_self, List.drop_set_of_lt (Nat.lt_add_one _), Hval.out, Hstep.out.1]; exact Nat.add_comm _ _
      have Hnew := Lib.hid hnew; clear hnew
      have Hd2 := Lib.hid hd2; clear hd2
      clear hD hDb hry hd' hr' hkl2
      go_wp2_with (go_at_call 61; refine (C1.out _).mono ?_; rintro e w' ⟨rfl, nq, rfl⟩)
      go_roundw
      case rel => exact ⟨q, r', ys.set q d', rfl, by go_num, by omega, Hstep.out.2.symm, by rw [List.length_set]; exact Hlen.out, Hdig.out.put _ Hd2.out, Hnew.out, Hrow3.out _, Hbel3.out _⟩
      case measure => simp [intOf]
    · obtain rfl : k = 0 := by omega
      have hrow := (Hrow.out.rowF (cap := la) (by rw [Hlen.out]; omega) (by unfold maxLen; omega))
      rw [Hlen.out] at hrow
      have C2 := Lib.hid (trimW_at (.slice (some ⟨w.heap.size, 0, none⟩) la la) ys wr Hdig.out (by rw [Hlen.out]; exact hrow))
      clear hrow
      have e1 := Hval.out
      have e2 := Hr.out
      simp only [List.drop_zero, Nat.pow_zero, Nat.div_one] at e1 e2
      have He1 := Lib.hid e1; clear e1
      have He2 := Lib.hid e2; clear e2
      go_wp2_with (go_at_call 53; refine C2.out.mono ?_; rintro e w' ⟨⟨v', rfl, hv', ho⟩, rfl⟩)
      go_ret2
      rw [He1.out] at hv'
      rw [← He2.out]
      exact ⟨⟨_, rfl, hv', ho.trans rfl⟩, Hbel.out⟩

theorem divWord_any (va : Value) (x y : Nat) (w : World) (ha : Nums 64 .u64 WB w va x) (hy : 0 < y) (hyb : y < WB) (hlx : ln WB x ≤ 1099511627776) :
    Calls Tryd.prog 40 #[va, .int .u64 (y : Nat)] w fun e w' => (∃ v, e = .returned (.tuple #[v, .int .u64 (x % y : Nat)]) ∧ Nums 64 .u64 WB w' v (x / y)) ∧ Below w.heap.size w w' :=
  (divWord_new va x y w ha hy hyb hlx).mono fun _ _ ⟨⟨v, he, hn, _⟩, hb⟩ => ⟨⟨v, he, hn⟩, hb⟩

end Go.Proofs.YtbcckgofoknmbaaDoor
/-
  Several texts in one: Shl, Shr.
-/
/-
  The program's shifts of a number by less than a word.
-/
namespace Go.Proofs.YtbcckgofoknmbaaDoor
open Go.RowKit Num

theorem getD_put_ne (xs : List Nat) (k j d : Nat) (h : k ≠ j) : (xs.set k d).getD j 0 = xs.getD j 0 := by
  rw [List.getD_eq_getElem?_getD, List.getD_eq_getElem?_getD, List.getElem?_set_ne h]

theorem rep_getD (n j : Nat) : (List.replicate n 0).getD j 0 = 0 := by
  rw [List.getD_eq_getElem?_getD, List.getElem?_replicate]
  split <;> rfl

theorem shl_put {b : Nat} {xs : List Nat} {k d c c' X x t lo : Nat} (hk : k < xs.length) (h0 : xs.getD k 0 = 0) (h : val b xs + c * b ^ k = X * t) (h1 : x * t = c' * b + lo) (h2 : d = lo + c) :
    val b (xs.set k d) + c' * b ^ (k + 1) = (X + b ^ k * x) * t := by
  have h3 := val_put b xs k d hk
  rw [h0, Nat.mul_zero, Nat.add_zero] at h3
  rw [Nat.pow_succ]
  generalize b ^ k = P at *
  have := Step.shl (P := P) (L := val b xs) (X := X) (c := c) (x := x) (t := t) (hi := c') (lo := lo) (B := b) (q := d) h h1 h2
  omega

/-- A shift to the left: the number scaled, one word more, in a new block. -/
def Wide (w w' : World) (v : Value) (n x : Nat) : Prop :=
  ∃ ys cap, v = .slice (some ⟨w.heap.size, 0, none⟩) n cap ∧ n ≤ cap ∧ cap ≤ maxLen ∧ ys.length = n ∧ Dig WB ys ∧ val WB ys = x ∧ RowW 64 w' w.heap.size 0 ys

set_option maxRecDepth 100000 in
set_option maxHeartbeats 1600000 in
theorem shl_any (va : Value) (x s : Nat) (w : World) (ha : Nums 64 .u64 WB w va x) (hs : s < 64) (hlx : ln WB x ≤ 1099511627776) :
    Calls Tryd.prog 78 #[va, .int .i64 (s : Nat)] w fun e w' => (∃ v, e = .returned v ∧ Wide w w' v (ln WB x + 1) (x * 2 ^ s)) ∧ Below w.heap.size w w' := by
  obtain ⟨i0, hi, hz0, hz1, hz2⟩ := info_parts Tryd.info_u64p
  obtain ⟨Aa, ca, rfl, hca, hca', _⟩ := RowF.open ha
  have h2 := WB_two
  have HA := Lib.hid ha; clear ha
  obtain ⟨la, hla⟩ : ∃ la, la = ln WB x := ⟨_, rfl⟩
  rw [← hla] at HA hca hlx ⊢
  have Hla := Lib.hid hla; clear hla
  have hs64 : IntKind.i64.wrap (64 - (s : Int)) = 64 - (s : Int) := IntWalk.i64_in _ (by omega)
  go_enter Tryd.func78, Tryd.ntmps78
  go_wp2_with (at_make; refine wpList_make_full _ rfl _ _ 41 rfl w.heap.size 64 i0 (.int .u64 0) 1 Tryd.underlying41 hi hz0 hz1 _ _ _ _ (la + 1) rfl rfl (by omega) (by omega) ?b2 ?b3 (Nat.le_refl _) ?_)
  case b2 => rw [hz2]; omega
  case b3 => unfold maxLen; omega
  intro w0 hown0 hgrow0
  have hrow0 := own_rowW (made_own hown0)
  have hbel0 : Below w.heap.size w w0 := (Below.refl _ _).grown hgrow0 (Nat.le_refl _) (fun k h => by cases h)
  clear hown0 hgrow0
  go_wp2_with fail
  go_loopw [6, 15] (fun cv i wr => ∃ (k c : Nat) (ys : List Nat), cv = .int .u64 (c : Nat) ∧ i = .int .i64 (k : Nat) ∧ k ≤ la ∧ c < 2 ^ s ∧ ys.length = la + 1 ∧ Dig WB ys ∧ val WB ys + c * WB ^ k = x % WB ^ k * 2 ^ s ∧ (∀ j, k ≤ j → ys.getD j 0 = 0) ∧ RowW 64 wr w.heap.size 0 ys ∧ Below w.heap.size w wr) (fun _ i _ => la - (intOf i).toNat)
  case atStart => exact ⟨0, 0, _, rfl, rfl, by omega, Nat.pow_pos (by omega), by simp, rep_dig _, by rw [val_replicate_zero]; simp [Nat.mod_one], (fun j _ => rep_getD _ _), hrow0, hbel0⟩
  case round =>
    clear hrow0 hbel0
    obtain ⟨k, c, ys, rfl, rfl, hkl, hc, hlen, hdig, hval, hzero, hrow, hbel⟩ := hrel
    have hkl2 : k < ys.length := by rw [hlen]; omega
    have hz : ys.getD k 0 = 0 := hzero k (Nat.le_refl _)
    have Hlen := Lib.hid hlen; clear hlen
    have Hdig := Lib.hid hdig; clear hdig
    have Hval := Lib.hid hval; clear hval
    have Hrow := Lib.hid hrow; clear hrow
    have Hbel := Lib.hid hbel; clear hbel
    have Hzero := Lib.hid hzero; clear hzero
    have Hz := Lib.hid hz; clear hz
    have Hc := Lib.hid hc; clear hc
    have hcl : c < 18446744073709551616 := by
      have h1 : (2 : Nat) ^ s ≤ 2 ^ 64 := Nat.pow_le_pow_right (by omega) (by omega)
      have := Hc.out
      omega
    by_cases hk : k < la
    · obtain ⟨bb, ob, rfl, hcB⟩ := (HA.out.below Hbel.out (Nat.le_refl _)).get Hla.out hk
      obtain ⟨E, hE⟩ : ∃ E, E = dg WB x k := ⟨_, rfl⟩
      rw [← hE] at hcB
      have hEb : E < WB := by rw [hE]; exact dg_lt _ _ _ h2
      have hw := Step.shl_word E s c (by omega) Hc.out
      obtain ⟨lo, hlo⟩ : ∃ lo, lo = E * 2 ^ s % 18446744073709551616 := ⟨_, rfl⟩
      obtain ⟨c', hc'⟩ : ∃ c', c' = E / 2 ^ (64 - s) := ⟨_, rfl⟩
      obtain ⟨d, hd⟩ : ∃ d, d = lo + c := ⟨_, rfl⟩
      rw [← hlo, ← hc', ← hd] at hw
      have hlol : lo < 18446744073709551616 := by rw [hlo]; exact Nat.mod_lt _ (by omega)
      have hd2 : d < WB := by rw [← hw.1]; exact Nat.or_lt_two_pow (n := 64) hlol hcl
      have hc2 : c' < 2 ^ s := by
        rw [hc', Nat.div_lt_iff_lt_mul (Nat.pow_pos (by omega)), ← Step.two_pow_split s (by omega)]; exact hEb
      have kd : bits BinOp.or IntKind.u64 (lo : Int) (c : Int) = (d : Int) := by rw [bits_or_u64_nat lo c hlol hcl, hw.1]
      have klo : IntKind.u64.wrap ((E : Int) * 2 ^ s) = (lo : Int) := by
        have e : ((E : Int) * 2 ^ s) = ((E * 2 ^ s : Nat) : Int) := by simp
        rw [e, IntKind.wrap_u64, hlo]; omega
      have kc : (E : Int) / 2 ^ (64 - s) = (c' : Int) := by rw [hc']; simp
      have hnew : val WB (ys.set k d) + c' * WB ^ (k + 1) = x % WB ^ (k + 1) * 2 ^ s := by
        rw [mod_pow_succ WB x k h2, ← hE]
        exact shl_put hkl2 Hz.out Hval.out hw.2 hd
      have Hnew := Lib.hid hnew; clear hnew
      have hcA : wr.cell? ⟨w.heap.size, k, none⟩ = some (.int .u64 (ys.getD k 0 : Nat)) := by have := Hrow.out.cell (j := k) hkl2; rwa [Nat.zero_add] at this
      have hfA : wr.frozen? ⟨w.heap.size, k, none⟩ = false := Hrow.out.free _
      have Hrow2 := Hrow.out.set k hkl2 d
      rw [Nat.zero_add] at Hrow2
      have Hrow3 := Lib.hid Hrow2; clear Hrow2
      have Hbel3 := Lib.hid (Hbel.out.setCell (p := ⟨w.heap.size, k, none⟩) (Nat.le_refl _) (.int .u64 (d : Nat)))
      have Hd2 := Lib.hid hd2; clear hd2
      have Hc2 := Lib.hid hc2; clear hc2
      have Hzero2 : Hid (∀ j, k + 1 ≤ j → (ys.set k d).getD j 0 = 0) := Lib.hid fun j hj => by rw [getD_put_ne _ _ _ _ (by omega)]; exact Hzero.out j (by omega)
      clear hE hEb hlo hc' hd hw hlol hkl2 hcl
      go_wp2_with fail
      go_roundw
      case rel => exact ⟨k + 1, c', ys.set k d, rfl, by go_num, by omega, Hc2.out, by rw [List.length_set]; exact Hlen.out, Hdig.out.put _ Hd2.out, Hnew.out, Hzero2.out, Hrow3.out, Hbel3.out⟩
      case measure => simp [intOf]; omega
    · obtain rfl : k = la := by omega
      have hcA : wr.cell? ⟨w.heap.size, k, none⟩ = some (.int .u64 (ys.getD k 0 : Nat)) := by have := Hrow.out.cell (j := k) hkl2; rwa [Nat.zero_add] at this
      have hfA : wr.frozen? ⟨w.heap.size, k, none⟩ = false := Hrow.out.free _
      have Hrow2 := Hrow.out.set k hkl2 c
      rw [Nat.zero_add] at Hrow2
      have Hrow3 := Lib.hid Hrow2; clear Hrow2
      have Hbel3 := Lib.hid (Hbel.out.setCell (p := ⟨w.heap.size, k, none⟩) (Nat.le_refl _) (.int .u64 (c : Nat)))
      have hv : val WB (ys.set k c) = x * 2 ^ s := by
        have h3 := val_put WB ys k c hkl2
        have h4 := Hval.out
        rw [mod_pow_ln WB x k h2 (by rw [← Hla.out]; omega)] at h4
        rw [Hz.out, Nat.mul_zero, Nat.add_zero, Nat.mul_comm] at h3
        rw [h3]; exact h4
      have Hv := Lib.hid hv; clear hv
      have hcW : c < WB := hcl
      have HcW := Lib.hid hcW; clear hcW
      clear hkl2 hcl hk
      go_wp2_with fail
      go_ret
      exact ⟨⟨_, rfl, ys.set k c, _, rfl, Nat.le_refl _, by unfold maxLen; omega, by rw [List.length_set]; exact Hlen.out, Hdig.out.put _ HcW.out, Hv.out, Hrow3.out⟩, Hbel3.out⟩

end Go.Proofs.YtbcckgofoknmbaaDoor
/-
  The program's shift of a row of words to the right by less than a word.
-/
namespace Go.Proofs.YtbcckgofoknmbaaDoor
open Go.RowKit Num

theorem shr_step {x Y s : Nat} (hs : s ≤ 64) (hx : x < 18446744073709551616) :
    (x / 2 ^ s ||| (Y * 2 ^ (64 - s) % 18446744073709551616)) < 18446744073709551616 ∧ (x / 2 ^ s ||| (Y * 2 ^ (64 - s) % 18446744073709551616)) + 18446744073709551616 * (Y / 2 ^ s) = (x + 18446744073709551616 * Y) / 2 ^ s := by
  have hp : 0 < 2 ^ s := Nat.pow_pos (by omega)
  have e := Step.shr_word x Y s hs hx
  rw [e]
  have h1 := Nat.div_add_mod Y (2 ^ s)
  have h2 := Nat.mod_lt Y hp
  obtain ⟨q, hq⟩ : ∃ q, q = Y / 2 ^ s := ⟨_, rfl⟩
  obtain ⟨r, hr⟩ : ∃ r, r = Y % 2 ^ s := ⟨_, rfl⟩
  rw [← hq, ← hr] at h1
  rw [← hr] at h2
  rw [← hq, ← hr]
  generalize 2 ^ s = p at *
  constructor
  · rw [Nat.div_lt_iff_lt_mul hp]
    have h3 : 18446744073709551616 * (r + 1) ≤ 18446744073709551616 * p := Nat.mul_le_mul_left _ h2
    omega
  · have e2 : x + 18446744073709551616 * Y = (x + 18446744073709551616 * r) + p * (18446744073709551616 * q) := by
      rw [← h1, Nat.mul_add, Nat.mul_left_comm]; omega
    rw [e2, Nat.add_mul_div_left _ _ hp]

set_option maxRecDepth 100000 in
set_option maxHeartbeats 1600000 in
theorem shr_any (A1 : Option Addr) (n ca : Nat) (xs : List Nat) (s : Nat) (w : World) (ha : RowF 64 .u64 w (.slice A1 n ca) n fun j => xs.getD j 0) (hd : Dig WB xs) (hl : xs.length = n) (hs : s < 64) (hln : n ≤ 1099511627777) :
    Calls Tryd.prog 80 #[.slice A1 n ca, .int .i64 (s : Nat)] w fun e w' => (∃ v, e = .returned v ∧ Wide w w' v n (val WB xs / 2 ^ s)) ∧ Below w.heap.size w w' := by
  obtain ⟨i0, hi, hz0, hz1, hz2⟩ := info_parts Tryd.info_u64p
  have h2 := WB_two
  have HA := Lib.hid ha; clear ha
  have Hd := Lib.hid hd; clear hd
  have Hl := Lib.hid hl; clear hl
  have hs64 : IntKind.i64.wrap (64 - (s : Int)) = 64 - (s : Int) := IntWalk.i64_in _ (by omega)
  go_enter Tryd.func80, Tryd.ntmps80
  go_wp2_with (at_make; refine wpList_make_full _ rfl _ _ 41 rfl w.heap.size 64 i0 (.int .u64 0) 1 Tryd.underlying41 hi hz0 hz1 _ _ _ _ n rfl rfl (by omega) (by omega) ?b2 ?b3 (Nat.le_refl _) ?_)
  case b2 => rw [hz2]; omega
  case b3 => unfold maxLen; omega
  intro w0 hown0 hgrow0
  have hrow0 := own_rowW (made_own hown0)
  have hbel0 : Below w.heap.size w w0 := (Below.refl _ _).grown hgrow0 (Nat.le_refl _) (fun k h => by cases h)
  clear hown0 hgrow0
  go_wp2_with fail
  go_loopw [6, 7] (fun cv i wr => ∃ (k c : Nat) (ys : List Nat), cv = .int .u64 (c : Nat) ∧ i = .int .i64 ((k : Int) - 1) ∧ k ≤ n ∧ c = val WB (xs.drop k) * 2 ^ (64 - s) % 18446744073709551616 ∧ ys.length = n ∧ Dig WB ys ∧ val WB (ys.drop k) = val WB (xs.drop k) / 2 ^ s ∧ RowW 64 wr w.heap.size 0 ys ∧ Below w.heap.size w wr) (fun _ i _ => ((intOf i) + 1).toNat)
  case atStart => exact ⟨n, 0, _, rfl, rfl, by omega, by rw [List.drop_of_length_le (by rw [Hl.out]; omega)]; simp [val], by simp, rep_dig _, by rw [List.drop_of_length_le (by simp), List.drop_of_length_le (by rw [Hl.out]; omega)]; simp [val], hrow0, hbel0⟩
  case round =>
    clear hrow0 hbel0
    obtain ⟨k, c, ys, rfl, rfl, hkl, hc, hlen, hdig, hval, hrow, hbel⟩ := hrel
    have Hlen := Lib.hid hlen; clear hlen
    have Hdig := Lib.hid hdig; clear hdig
    have Hval := Lib.hid hval; clear hval
    have Hrow := Lib.hid hrow; clear hrow
    have Hbel := Lib.hid hbel; clear hbel
    have Hc := Lib.hid hc; clear hc
    by_cases hk0 : 1 ≤ k
    · obtain ⟨q, rfl⟩ : ∃ q, k = q + 1 := ⟨k - 1, by omega⟩
      obtain ⟨bb, ob, rfl, hcB⟩ := (HA.out.below Hbel.out (Nat.le_refl _)).get (show q < n by omega)
      obtain ⟨E, hE⟩ : ∃ E, E = xs.getD q 0 := ⟨_, rfl⟩
      rw [← hE] at hcB
      have hEb : E < 18446744073709551616 := by rw [hE]; exact getD_below (by unfold WB; omega) Hd.out _
      obtain ⟨Y, hY⟩ : ∃ Y, Y = val WB (xs.drop (q + 1)) := ⟨_, rfl⟩
      have hYq : val WB (xs.drop q) = E + WB * Y := by
        rw [val_drop_step WB xs q (by rw [Hl.out]; omega), hY, hE, getD_eq _ _ (by rw [Hl.out]; omega)]
      have hst := shr_step (x := E) (Y := Y) (s := s) (by omega) hEb
      have hcl : c < 18446744073709551616 := by rw [Hc.out]; exact Nat.mod_lt _ (by omega)
      obtain ⟨d, hd'⟩ : ∃ d, d = (E / 2 ^ s ||| c) := ⟨_, rfl⟩
      have hcc := Hc.out
      rw [← hY] at hcc
      rw [← hcc, ← hd'] at hst
      obtain ⟨g, hg⟩ : ∃ g, g = E / 2 ^ s := ⟨_, rfl⟩
      have hgl : g < 18446744073709551616 := by rw [hg]; exact Nat.lt_of_le_of_lt (Nat.div_le_self _ _) hEb
      have kg : (E : Int) / 2 ^ s = (g : Int) := by rw [hg]; simp
      have kd : bits BinOp.or IntKind.u64 (g : Int) (c : Int) = (d : Int) := by rw [bits_or_u64_nat g c hgl hcl, hg, hd']
      obtain ⟨c', hc'⟩ : ∃ c', c' = E * 2 ^ (64 - s) % 18446744073709551616 := ⟨_, rfl⟩
      have kc : IntKind.u64.wrap ((E : Int) * 2 ^ (64 - s)) = (c' : Int) := by
        have e : ((E : Int) * 2 ^ (64 - s)) = ((E * 2 ^ (64 - s) : Nat) : Int) := by simp
        rw [e, IntKind.wrap_u64, hc']; omega
      have hc2 : c' = val WB (xs.drop q) * 2 ^ (64 - s) % 18446744073709551616 := by
        rw [hYq, hc', Nat.add_mul, show WB * Y * 2 ^ (64 - s) = 18446744073709551616 * (Y * 2 ^ (64 - s)) from by rw [Nat.mul_assoc]; rfl, Nat.add_mul_mod_self_left]
      have hkl2 : q < ys.length := by rw [Hlen.out]; omega
      have hnew : val WB ((ys.set q d).drop q) = val WB (xs.drop q) / 2 ^ s := by
        rw [val_drop_step _ _ _ (by rw [List.length_set]; omega), List.getElem_set_self, List.drop_set_of_lt (Nat.lt_add_one _), Hval.out, ← hY, hYq]
        exact hst.2
      have Hnew := Lib.hid hnew; clear hnew
      have hd2 : d < WB := hst.1
      have Hd2 := Lib.hid hd2; clear hd2
      have Hc2 := Lib.hid hc2; clear hc2
      have hcA : wr.cell? ⟨w.heap.size, q, none⟩ = some (.int .u64 (ys.getD q 0 : Nat)) := by have := Hrow.out.cell (j := q) hkl2; rwa [Nat.zero_add] at this
      have hfA : wr.frozen? ⟨w.heap.size, q, none⟩ = false := Hrow.out.free _
      have Hrow2 := Hrow.out.set q hkl2 d
      rw [Nat.zero_add] at Hrow2
      have Hrow3 := Lib.hid Hrow2; clear Hrow2
      have hbel3 := Hbel.out.setCell (p := ⟨w.heap.size, q, none⟩) (Nat.le_refl _) (.int .u64 (d : Nat))
      have hcB2 : (wr.setCell ⟨w.heap.size, q, none⟩ (.int .u64 (d : Nat))).cell? ⟨bb, ob + q, none⟩ = some (.int .u64 (E : Nat)) := by
        obtain ⟨b3, o3, h3, hc3⟩ := (HA.out.below hbel3 (Nat.le_refl _)).get (show q < n by omega)
        injection h3 with h3
        injection h3 with h4 h5
        rw [← h4, ← h5, ← hE] at hc3
        exact hc3
      have Hbel3 := Lib.hid hbel3; clear hbel3
      clear hE hEb hY hYq hst hd' hcc hg hgl hc' hkl2 hcl
      go_wp2_with fail
      go_roundw
      case rel => exact ⟨q, c', ys.set q d, rfl, by go_num, by omega, Hc2.out, by rw [List.length_set]; exact Hlen.out, Hdig.out.put _ Hd2.out, Hnew.out, Hrow3.out, Hbel3.out⟩
      case measure => simp [intOf]
    · obtain rfl : k = 0 := by omega
      have e1 := Hval.out
      simp only [List.drop_zero] at e1
      have He1 := Lib.hid e1; clear e1
      go_wp2_with fail
      go_ret
      exact ⟨⟨_, rfl, ys, _, rfl, Nat.le_refl _, by unfold maxLen; omega, Hlen.out, Hdig.out, He1.out, Hrow.out⟩, Hbel.out⟩

end Go.Proofs.YtbcckgofoknmbaaDoor
/-
  A step of the program's long division: the quotient of a window by the divisor, the rest left in the window.
-/
namespace Go.Proofs.YtbcckgofoknmbaaDoor
open Go.RowKit Num

theorem mul64_same (x y lo hi : Nat) (hx : x < WB) (hy : y < WB) (h1 : hi = x * y / WB) (h2 : lo = x * y % WB) (w : World) :
    Calls Tryd.prog 87 #[.int .u64 x, .int .u64 y] w fun e w' => e = .returned (.tuple #[.int .u64 (hi : Nat), .int .u64 (lo : Nat)]) ∧ w = w' := by
  rw [h1, h2]
  exact (Tryd.bits_Mul64 x y hx hy w).mono fun e w' ⟨he, hw⟩ => ⟨he, hw.symm⟩

/-- What the guess, its rest and its product with the second word are at the head of the loop. -/
structure GuessAt (Q top D2 W2 G R H L : Nat) : Prop where
  ge : Q ≤ G
  eq : G * top + R = W2
  hG : G < WB
  hR : R < WB
  hH : H = G * D2 / WB
  hL : L = G * D2 % WB

theorem pass_iff {H L R w2 p : Nat} (hH : H = p / WB) (hL : L = p % WB) (hw : w2 < WB) : (R * WB + w2 < p) ↔ (R < H ∨ (H = R ∧ w2 < L)) := by
  have h := Nat.div_add_mod p WB
  rw [← hH, ← hL] at h
  have hl : L < WB := by rw [hL]; exact Nat.mod_lt _ (by unfold WB; omega)
  unfold WB at *
  omega

set_option maxRecDepth 100000 in
set_option maxHeartbeats 3200000 in
theorem divStep_any (g off ca n cd m : Nat) (xs : List Nat) (Ad : Option Addr) (D : Nat) (w : World) (hx : RowW 64 w g off xs) (hd : Dig WB xs) (hl : xs.length = n + 1) (hb : Nums 64 .u64 WB w (.slice Ad n cd) D) (hn : n = ln WB D) (hm : n = m + 2) (hne : (Value.slice Ad n cd).ownBlock ≠ some g) (hW : val WB xs < WB * D) (hlm : n ≤ 1099511627776) :
    Calls Tryd.prog 79 #[.slice (some ⟨g, off, none⟩) (n + 1) ca, .slice Ad n cd] w fun e w' => (∃ ys, e = .returned (.int .u64 (val WB xs / D : Nat)) ∧ ys.length = n + 1 ∧ Dig WB ys ∧ val WB ys = val WB xs % D ∧ RowW 64 w' g off ys) ∧ Wrote g off (off + (n + 1)) w w' := by
  have h2 := WB_two
  obtain ⟨V, hV⟩ : ∃ V, V = val WB xs := ⟨_, rfl⟩
  have hDb : D < WB ^ (m + 2) := by rw [← hm, hn]; exact lt_pow_ln WB D h2
  have hVb : V < WB ^ (m + 3) := by rw [hV]; have := val_lt WB xs hd; rw [hl, hm] at this; exact this
  have hD0 : 0 < D := Nat.pos_of_ne_zero fun e => by rw [e, ln_zero] at hn; omega
  have xg : ∀ j, xs.getD j 0 = dg WB V j := fun j => by rw [getD_val WB xs hd, hV, dg_eq WB h2]
  obtain ⟨top, htop⟩ : ∃ top, top = dg WB D (m + 1) := ⟨_, rfl⟩
  obtain ⟨D2, hD2⟩ : ∃ D2, D2 = dg WB D m := ⟨_, rfl⟩
  obtain ⟨w0, hw0⟩ : ∃ w0, w0 = dg WB V (m + 2) := ⟨_, rfl⟩
  obtain ⟨w1, hw1⟩ : ∃ w1, w1 = dg WB V (m + 1) := ⟨_, rfl⟩
  obtain ⟨w2, hw2⟩ : ∃ w2, w2 = dg WB V m := ⟨_, rfl⟩
  have ht0 : 0 < top := by
    have := top_le WB D (m + 1) h2 (by omega)
    rw [htop, ← div_top WB D (m + 1) h2 hDb]
    exact Nat.div_pos this (Nat.pow_pos (by omega))
  have htb : top < WB := by rw [htop]; exact dg_lt _ _ _ h2
  have hD2b : D2 < WB := by rw [hD2]; exact dg_lt _ _ _ h2
  have hw0b : w0 < WB := by rw [hw0]; exact dg_lt _ _ _ h2
  have hw1b : w1 < WB := by rw [hw1]; exact dg_lt _ _ _ h2
  have hw2b : w2 < WB := by rw [hw2]; exact dg_lt _ _ _ h2
  rw [← hV] at hW ⊢
  obtain ⟨Q, hQ⟩ : ∃ Q, Q = V / D := ⟨_, rfl⟩
  have hQb : Q < WB := by rw [hQ, Nat.div_lt_iff_lt_mul hD0]; exact hW
  have hcw0 : w.cell? ⟨g, off + n, none⟩ = some (.int .u64 (w0 : Nat)) := by rw [hw0, ← xg, show m + 2 = n from by omega]; exact hx.cell (by omega)
  have hcw1 : w.cell? ⟨g, off + (n - 1), none⟩ = some (.int .u64 (w1 : Nat)) := by rw [hw1, ← xg, show m + 1 = n - 1 from by omega]; exact hx.cell (by omega)
  have hcw2 : w.cell? ⟨g, off + (n - 2), none⟩ = some (.int .u64 (w2 : Nat)) := by rw [hw2, ← xg, show m = n - 2 from by omega]; exact hx.cell (by omega)
  obtain ⟨bd, od, rfl, hcd1⟩ := hb.get hn (show n - 1 < n by omega)
  have hcd2 : w.cell? ⟨bd, od + (n - 2), none⟩ = some (.int .u64 (D2 : Nat)) := by
    obtain ⟨b3, o3, h3, hc3⟩ := hb.get hn (show n - 2 < n by omega)
    injection h3 with h3
    injection h3 with h4 h5
    rw [← h4, ← h5, show n - 2 = m from by omega, ← hD2] at hc3
    rw [show n - 2 = m from by omega]
    exact hc3
  rw [show n - 1 = m + 1 from by omega, ← htop, show m + 1 = n - 1 from by omega] at hcd1
  have hfin : ∀ G V' : Nat, V' + G * D = V → Q ≤ G → G = Q ∧ V' = V % D := fun G V' h1 h3 => by rw [hQ] at h3 ⊢; exact guess_done hD0 h1 h3
  have Hfin := Lib.hid hfin; clear hfin
  have hover : ∀ G V' t : Nat, V' + G * D = V + t * WB ^ (n + 1) → V' < WB ^ (n + 1) → t ≠ 0 → Q < G := fun G V' t h1 h3 h4 => by rw [hQ]; exact guess_over h1 h3 h4
  have Hover := Lib.hid hover; clear hover
  have hless : ∀ G R : Nat, G * top + R = w0 * WB + w1 → R * WB + w2 < G * D2 → Q < G := fun G R h1 h3 => by
    rw [hQ]; rw [htop, hw0, hw1] at h1; rw [hw2, hD2] at h3; exact guess_less h2 hDb hVb h1 h3
  have Hless := Lib.hid hless; clear hless
  have hfirst : Q ≤ (w0 * WB + w1) / top := by
    rw [hQ, hw0, hw1, htop]; exact guess_first h2 hDb hVb (by rw [← htop]; exact ht0) hD0
  have Hfirst := Lib.hid hfirst; clear hfirst
  rw [← hQ]
  have HV := Lib.hid hV; clear hV
  have HQ := Lib.hid hQ; clear hQ
  have Hx := Lib.hid hx; clear hx
  have Hd := Lib.hid hd; clear hd
  have Hl := Lib.hid hl; clear hl
  have Hb := Lib.hid hb; clear hb
  have Hn := Lib.hid hn; clear hn
  have Hne := Lib.hid hne; clear hne
  have Hm := Lib.hid hm
  have hn2 : 2 ≤ n := by omega
  have HW := Lib.hid hW; clear hW
  have HQb := Lib.hid hQb; clear hQb
  clear hm xg htop hD2 hw0 hw1 hw2 hDb hVb
  have Htb := Lib.hid htb; clear htb
  have HD2b := Lib.hid hD2b; clear hD2b
  have Hw0b := Lib.hid hw0b; clear hw0b
  have Hw1b := Lib.hid hw1b; clear hw1b
  have Hw2b := Lib.hid hw2b; clear hw2b
  have hu : IntKind.i64.wrap ((n : Int) - 1) = (n : Int) - 1 := IntWalk.i64_in _ (by omega)
  go_enter Tryd.func79, Tryd.ntmps79
  go_upto_if 24 with fail
  go_cut [6] (fun s6 wx => ∃ G nq : Nat, s6 = .int .u64 (G : Nat) ∧ wx = w.drewN nq ∧ Q ≤ G ∧ G < WB)
  case first =>
    by_cases ht : w0 < top
    · obtain ⟨G0, hG0⟩ : ∃ G0, G0 = (w0 * WB + w1) / top := ⟨_, rfl⟩
      obtain ⟨R0, hR0⟩ : ∃ R0, R0 = (w0 * WB + w1) % top := ⟨_, rfl⟩
      have C1 := Lib.hid (div64_any w0 w1 top G0 R0 Hw1b.out Htb.out ht hG0 hR0)
      obtain ⟨H0, hH0⟩ : ∃ H, H = G0 * D2 / WB := ⟨_, rfl⟩
      obtain ⟨L0, hL0⟩ : ∃ L, L = G0 * D2 % WB := ⟨_, rfl⟩
      have hG0b : G0 < WB := by rw [hG0]; exact quo_lt ht Hw1b.out
      have hR0b : R0 < WB := by rw [hR0]; exact Nat.lt_trans (Nat.mod_lt _ ht0) Htb.out
      have C2 := Lib.hid (mul64_same G0 D2 L0 H0 hG0b HD2b.out hH0 hL0)
      have hat0 : GuessAt Q top D2 (w0 * WB + w1) G0 R0 H0 L0 := ⟨by rw [hG0]; exact Hfirst.out, by rw [hG0, hR0, Nat.mul_comm]; exact Nat.div_add_mod _ _, hG0b, hR0b, hH0, hL0⟩
      have Hat0 := Lib.hid hat0; clear hat0
      clear hG0 hR0 hH0 hL0 hG0b hR0b
      go_wp2_with fail
      go_quiet ((go_at_call 61; exact Calls.quiet_of (C1.out _)))
      go_wp2_with (go_at_call 87; refine (C2.out _).mono ?_; rintro e w' ⟨rfl, rfl⟩)
      clear C1 C2
      go_loop [6, 8, 9, 10] (fun a b c d => ∃ G R H L : Nat, a = .int .u64 (G : Nat) ∧ b = .int .u64 (R : Nat) ∧ c = .int .u64 (H : Nat) ∧ d = .int .u64 (L : Nat) ∧ GuessAt Q top D2 (w0 * WB + w1) G R H L) (fun a _ _ _ => (intOf a).toNat)
      case atStart => exact ⟨G0, R0, H0, L0, rfl, rfl, rfl, rfl, Hat0.out⟩
      case round =>
        clear Hat0
        obtain ⟨G, R, H, L, rfl, rfl, rfl, rfl, hat⟩ := hrel
        have Hat := Lib.hid hat; clear hat
        have hpass := pass_iff (R := R) Hat.out.hH Hat.out.hL Hw2b.out
        by_cases hc : R < H ∨ (H = R ∧ w2 < L)
        · have hq := Hless.out G R Hat.out.eq (hpass.2 hc)
          obtain ⟨G', hG'⟩ : ∃ G', G' = G - 1 := ⟨_, rfl⟩
          obtain ⟨R', hR'⟩ : ∃ R', R' = (R + top) % WB := ⟨_, rfl⟩
          obtain ⟨H', hH'⟩ : ∃ H', H' = G' * D2 / WB := ⟨_, rfl⟩
          obtain ⟨L', hL'⟩ : ∃ L', L' = G' * D2 % WB := ⟨_, rfl⟩
          have hGb := Hat.out.hG
          have hRb := Hat.out.hR
          have htb := Htb.out
          have kG : IntKind.u64.wrap ((G : Int) - 1) = (G' : Int) := by unfold WB at hGb; rw [IntWalk.u64_in _ (by omega)]; omega
          have kR : IntKind.u64.wrap ((R : Int) + (top : Int)) = (R' : Int) := by rw [IntKind.wrap_u64, hR']; unfold WB; omega
          have C3 := Lib.hid (mul64_same G' D2 L' H' (by omega) HD2b.out hH' hL')
          have Hmore : Hid (Q ≤ G' ∧ G' < WB ∧ G' < G) := Lib.hid ⟨by omega, by omega, by omega⟩
          have hnext : ¬ R' < top → GuessAt Q top D2 (w0 * WB + w1) G' R' H' L' := fun h => by
            have hno : R + top < WB := by
              apply Nat.lt_of_not_le
              intro hle
              rw [hR', Nat.mod_eq_sub_mod hle, Nat.mod_eq_of_lt (by omega)] at h
              omega
            have hR2 : R' = R + top := by rw [hR', Nat.mod_eq_of_lt hno]
            refine ⟨by omega, ?_, by omega, by omega, hH', hL'⟩
            have e := Hat.out.eq
            obtain ⟨p, rfl⟩ : ∃ p, G = p + 1 := ⟨G - 1, by omega⟩
            rw [show G' = p by omega, hR2, ← e, Nat.add_mul, Nat.one_mul]; omega
          have Hnext := Lib.hid hnext; clear hnext
          clear hpass hq hGb hRb htb hG' hR' hH' hL'
          by_cases hA : R < H
          · clear hc
            by_cases hov : R' < top
            · go_wp2_with fail
              go_meet
              exact ⟨G', _, rfl, rfl, Hmore.out.1, Hmore.out.2.1⟩
            · have Hn' := Lib.hid (Hnext.out hov)
              go_wp2_with (go_at_call 87; refine (C3.out _).mono ?_; rintro e w' ⟨rfl, rfl⟩)
              go_round
              case rel => exact ⟨G', R', H', L', rfl, rfl, rfl, rfl, Hn'.out⟩
              case measure => have := Hmore.out.2.2; simp [intOf]; omega
          · have hE : H = R := by omega
            have hLt : w2 < L := by omega
            clear hc hA
            subst hE
            by_cases hov : R' < top
            · go_wp2_with fail
              go_meet
              exact ⟨G', _, rfl, rfl, Hmore.out.1, Hmore.out.2.1⟩
            · have Hn' := Lib.hid (Hnext.out hov)
              go_wp2_with (go_at_call 87; refine (C3.out _).mono ?_; rintro e w' ⟨rfl, rfl⟩)
              go_round
              case rel => exact ⟨G', R', H', L', rfl, rfl, rfl, rfl, Hn'.out⟩
              case measure => have := Hmore.out.2.2; simp [intOf]; omega
        · have hfin := Lib.hid Hat.out.ge
          have hfin2 := Lib.hid Hat.out.hG
          have hA : ¬ R < H := fun h => hc (.inl h)
          clear hpass
          by_cases hE : H = R
          · have hLt : ¬ w2 < L := fun h => hc (.inr ⟨hE, h⟩)
            clear hc hA
            subst hE
            go_wp2_with fail
            go_meet
            exact ⟨G, _, rfl, rfl, hfin.out, hfin2.out⟩
          · clear hc
            go_wp2_with fail
            go_meet
            exact ⟨G, _, rfl, rfl, hfin.out, hfin2.out⟩
    · go_wp2_with fail
      go_meet
      exact ⟨18446744073709551615, 0, rfl, rfl, by have := HQb.out; unfold WB at this; omega, by unfold WB; omega⟩
  case rest =>
    obtain ⟨G, nq, rfl, rfl, hG1, hG2⟩ := hcut
    have HG1 := Lib.hid hG1; clear hG1
    have HG2 := Lib.hid hG2; clear hG2
    have C4 := Lib.hid (subMul_any g off ca (n + 1) xs (.slice (some ⟨bd, od, none⟩) n cd) D G (w.drewN nq) HG2.out (Hx.out.drewN nq) Hd.out Hl.out (by unfold maxLen; omega) (Hb.out.below (below_drewN nq (Below.refl w.heap.size w)) (Nat.le_refl _)) Hne.out (by rw [← Hn.out]; omega))
    go_wp2_with (go_at_call 92; refine C4.out.mono ?_; rintro e w' ⟨⟨ys, t, rfl, ht, hyl, hyd, hyv, hyr⟩, hwr⟩; have HS := Lib.hid (And.intro ht (And.intro hyl (And.intro hyd (And.intro hyv (And.intro hyr hwr))))); clear ht hyl hyd hyv hyr hwr)
    go_loopw [6, 11] (fun a b wr => ∃ (G t : Nat) (ys : List Nat), a = .int .u64 (G : Nat) ∧ b = .int .u64 (t : Nat) ∧ Q ≤ G ∧ G < WB ∧ t < WB ∧ ys.length = n + 1 ∧ Dig WB ys ∧ val WB ys + G * D = V + t * WB ^ (n + 1) ∧ RowW 64 wr g off ys ∧ Wrote g off (off + (n + 1)) w wr) (fun a _ _ => (intOf a).toNat)
    case atStart =>
      obtain ⟨ht, hyl, hyd, hyv, hyr, hwr⟩ := HS.out
      exact ⟨G, t, ys, rfl, rfl, HG1.out, HG2.out, ht, hyl, hyd, by rw [HV.out]; exact hyv, hyr, (Wrote.drewN nq (Wrote.refl _ _ _ w)).trans hwr⟩
    case round =>
      clear HS HG1 HG2 C4
      obtain ⟨G, t, ys, rfl, rfl, hQG, hGb, htb, hlen, hdig, hval, hrow, hwr⟩ := hrel
      have Hlen := Lib.hid hlen; clear hlen
      have Hdig := Lib.hid hdig; clear hdig
      have Hval := Lib.hid hval; clear hval
      have Hrow := Lib.hid hrow; clear hrow
      have Hwr := Lib.hid hwr; clear hwr
      by_cases ht : t = 0
      · subst ht
        have hv := Hval.out
        rw [Nat.zero_mul, Nat.add_zero] at hv
        have HF := Lib.hid (Hfin.out _ _ hv hQG)
        clear hv hQG hGb htb
        go_wp2_with fail
        go_ret
        exact ⟨⟨ys, by rw [HF.out.1]; rfl, Hlen.out, Hdig.out, HF.out.2, Hrow.out⟩, Hwr.out⟩
      · have hlt : val WB ys < WB ^ (n + 1) := by have := val_lt WB ys Hdig.out; rwa [Hlen.out] at this
        have hq := Hover.out G _ t Hval.out hlt ht
        obtain ⟨G', hG'⟩ : ∃ G', G' = G - 1 := ⟨_, rfl⟩
        have kG : IntKind.u64.wrap ((G : Int) - 1) = (G' : Int) := by unfold WB at hGb; rw [IntWalk.u64_in _ (by omega)]; omega
        have C5 := Lib.hid (addInto_any g off ca (n + 1) ys (.slice (some ⟨bd, od, none⟩) n cd) D wr Hrow.out Hdig.out Hlen.out (by unfold maxLen; omega) (Hb.out.wrote Hwr.out Hne.out) Hne.out (by rw [← Hn.out]; omega))
        have HG' : Hid (Q ≤ G' ∧ G' < WB ∧ G' < G ∧ G = G' + 1) := Lib.hid ⟨by omega, by omega, by omega, by omega⟩
        have htb1 : 1 ≤ t := by omega
        have htne : ¬ t = 0 := ht
        have htb2 : t < 18446744073709551616 := htb
        have Htb := Lib.hid htb; clear htb
        clear hlt hq hG' hQG hGb ht
        go_wp2_with (go_at_call 91; refine C5.out.mono ?_; rintro e w' ⟨⟨zs, c, rfl, hc, hzl, hzd, hzv, hzr⟩, hwz⟩; have HS := Lib.hid (And.intro hzl (And.intro hzd (And.intro hzv (And.intro hzr hwz)))); clear hzl hzd hzv hzr hwz)
        go_roundw
        case rel =>
          obtain ⟨hzl, hzd, hzv, hzr, hwz⟩ := HS.out
          refine ⟨G', t - c, zs, rfl, ?_, HG'.out.1, HG'.out.2.1, by have := Htb.out; omega, hzl, hzd, ?_, hzr, Hwr.out.trans hwz⟩
          · first | (rw [show ((t - c : Nat) : Int) = (t : Int) - c by omega]) | (congr 1; omega)
          · have h1 := Hval.out
            rw [HG'.out.2.2.2, Nat.add_mul, Nat.one_mul] at h1
            rw [Nat.sub_mul]
            have h3 : c * WB ^ (n + 1) ≤ t * WB ^ (n + 1) := Nat.mul_le_mul_right _ (by omega)
            omega
        case measure => have := HG'.out.2.2.1; simp [intOf]; omega

end Go.Proofs.YtbcckgofoknmbaaDoor
/-
  The program's division of numbers: quotient and rest.
-/
namespace Go.Proofs.YtbcckgofoknmbaaDoor
open Go.RowKit Num

/-- A value that lies in no block below B. -/
def Fresh (B : Nat) (v : Value) : Prop := ∀ k, v.ownBlock = some k → B ≤ k

theorem Wide.rowF {w w' : World} {v : Value} {n x : Nat} (h : Wide w w' v n x) : ∃ ys, ys.length = n ∧ Dig WB ys ∧ val WB ys = x ∧ RowF 64 .u64 w' v ys.length (fun j => ys.getD j 0) ∧ v.ownBlock = some w.heap.size := by
  obtain ⟨ys, cap, rfl, h1, h2, h3, h4, h5, h6⟩ := h
  refine ⟨ys, h3, h4, h5, ?_, rfl⟩
  have := h6.rowF (cap := cap) (by omega) h2
  rw [← h3]
  exact this

set_option maxRecDepth 100000 in
set_option maxHeartbeats 800000 in
theorem divNats_less (va vb : Value) (x y : Nat) (w : World) (ha : Nums 64 .u64 WB w va x) (hb : Nums 64 .u64 WB w vb y) (h : x < y) :
    Calls Tryd.prog 58 #[va, vb] w fun e w' => e = .returned (.tuple #[.slice none 0 0, va]) ∧ ∃ nq, w' = w.drewN nq := by
  have e1 : cmpI x y = -1 := by rw [cmpI, if_pos h]
  have c1 := cmpW_any va vb x y w ha hb
  rw [e1] at c1
  obtain ⟨Aa, ca, rfl, _, _, _⟩ := RowF.open ha
  have C1 := Lib.hid c1; clear c1 ha hb h e1
  go_enter Tryd.func58, Tryd.ntmps58
  go_wp2_with (go_at_call 54; refine C1.out.mono ?_; rintro e w' ⟨rfl, nq, rfl⟩)
  go_ret2
  exact ⟨rfl, nq, rfl⟩

set_option maxRecDepth 100000 in
set_option maxHeartbeats 800000 in
theorem divNats_word (va vb : Value) (x y : Nat) (w : World) (ha : Nums 64 .u64 WB w va x) (hb : Nums 64 .u64 WB w vb y) (h : y ≤ x) (hl : ln WB y = 1) (hlx : ln WB x ≤ 549755813888) :
    Calls Tryd.prog 58 #[va, vb] w fun e w' => (∃ v v', e = .returned (.tuple #[v, v']) ∧ Nums 64 .u64 WB w' v (x / y) ∧ Nums 64 .u64 WB w' v' (x % y)) ∧ Below w.heap.size w w' := by
  have h2 := WB_two
  have e1 : 0 ≤ cmpI x y := by rw [cmpI, if_neg (by omega)]; split <;> omega
  obtain ⟨c, hc⟩ : ∃ c, c = cmpI x y := ⟨_, rfl⟩
  have c1 := cmpW_any va vb x y w ha hb
  rw [← hc] at c1 e1
  obtain ⟨Aa, ca, rfl, _, _, _⟩ := RowF.open ha
  obtain ⟨Ab, cb, rfl, _, _, _⟩ := RowF.open hb
  have hyb : y < WB := by have := lt_pow_ln WB y h2; rw [hl] at this; simpa using this
  have hy0 : 0 < y := Nat.pos_of_ne_zero fun e => by rw [e, ln_zero] at hl; omega
  rw [hl] at hb c1 ⊢
  obtain ⟨bb, ob, rfl, hcb⟩ := hb.get hl.symm (show 0 < 1 by omega)
  have hdg : dg WB y 0 = y := by rw [dg_zero WB y h2, Nat.mod_eq_of_lt hyb]
  rw [hdg, Nat.add_zero] at hcb
  have C1 := Lib.hid c1
  have C2 : Hid (∀ nq, Calls Tryd.prog 40 #[.slice Aa (ln WB x) ca, .int .u64 (y : Nat)] (w.drewN nq) fun e w' => (∃ v, e = .returned (.tuple #[v, .int .u64 (x % y : Nat)]) ∧ Nums 64 .u64 WB w' v (x / y)) ∧ Below w.heap.size (w.drewN nq) w') :=
    Lib.hid fun nq => divWord_any _ x y (w.drewN nq) (ha.below (below_drewN nq (Below.refl w.heap.size w)) (Nat.le_refl _)) hy0 hyb (by omega)
  obtain ⟨r, hr⟩ : ∃ r, r = x % y := ⟨_, rfl⟩
  have hrb : r < WB := by rw [hr]; exact Nat.lt_trans (Nat.mod_lt _ hy0) hyb
  rw [← hr] at C2 ⊢
  have Hrb := Lib.hid hrb
  clear c1 ha hb h hc hl hyb hy0 hdg hr hrb
  go_enter Tryd.func58, Tryd.ntmps58
  go_wp2_with (first
    | (go_at_call 54; refine C1.out.mono ?_; rintro e w' ⟨rfl, nq, rfl⟩)
    | (go_at_call 40; refine (C2.out _).mono ?_; rintro e w1 ⟨⟨v1, rfl, hv1⟩, hb1⟩)
    | (go_at_call 59; refine (ofWord_any r Hrb.out _).mono ?_; rintro e w2 ⟨⟨v2, rfl, hv2⟩, hb2⟩))
  go_ret2
  have hb1' : Below w.heap.size w w1 := (below_drewN _ (Below.refl w.heap.size w)).trans hb1
  exact ⟨⟨_, _, rfl, hv1.below hb2 (Nat.le_refl _), hv2⟩, hb1'.trans (hb2.mono hb1'.size)⟩

set_option maxRecDepth 100000 in
set_option maxHeartbeats 400000 in
theorem divNats_big (va vb : Value) (x y m : Nat) (w : World) (ha : Nums 64 .u64 WB w va x) (hb : Nums 64 .u64 WB w vb y) (h : y ≤ x) (hl : ln WB y = m + 2) (hlx : ln WB x ≤ 549755813888) :
    Calls Tryd.prog 58 #[va, vb] w fun e w' => (∃ v v', e = .returned (.tuple #[v, v']) ∧ Nums 64 .u64 WB w' v (x / y) ∧ Nums 64 .u64 WB w' v' (x % y) ∧ Fresh w.heap.size v') ∧ Below w.heap.size w w' := by
  have h2 := WB_two
  have e1 : 0 ≤ cmpI x y := by rw [cmpI, if_neg (by omega)]; split <;> omega
  obtain ⟨c, hc⟩ : ∃ c, c = cmpI x y := ⟨_, rfl⟩
  have c1 := cmpW_any va vb x y w ha hb
  rw [← hc] at c1 e1
  obtain ⟨Aa, ca, rfl, _, _, _⟩ := RowF.open ha
  obtain ⟨Ab, cb, rfl, _, _, _⟩ := RowF.open hb
  have hlxy : ln WB y ≤ ln WB x := ln_mono WB y x h2 h
  obtain ⟨n, hn⟩ : ∃ n, n = ln WB y := ⟨_, rfl⟩
  rw [← hn] at hb c1 hlxy hl ⊢
  obtain ⟨la, hla⟩ : ∃ la, la = ln WB x := ⟨_, rfl⟩
  rw [← hla] at ha c1 hlxy hlx ⊢
  obtain ⟨bb, ob, rfl, hcb⟩ := hb.get hn (show n - 1 < n by omega)
  obtain ⟨tp, htp⟩ : ∃ tp, tp = dg WB y (n - 1) := ⟨_, rfl⟩
  rw [← htp] at hcb
  have hyn : y < WB ^ (n - 1 + 1) := by have := lt_pow_ln WB y h2; rwa [← hn, show n = n - 1 + 1 by omega] at this
  have hyl : WB ^ (n - 1) ≤ y := top_le WB y (n - 1) h2 (by omega)
  have htpv : tp = y / WB ^ (n - 1) := by rw [htp, div_top WB y (n - 1) h2 hyn]
  have htp0 : tp ≠ 0 := by
    have := Nat.div_pos hyl (Nat.pow_pos (n := n - 1) (show 0 < WB by omega))
    omega
  have htpb : tp < WB := by rw [htp]; exact dg_lt _ _ _ h2
  obtain ⟨s, hs⟩ : ∃ s, s = lz tp := ⟨_, rfl⟩
  obtain ⟨hs1, hs2, hs3⟩ := lz_spec tp htp0 htpb
  rw [← hs] at hs1 hs2 hs3
  obtain ⟨D, hD⟩ : ∃ D, D = y * 2 ^ s := ⟨_, rfl⟩
  obtain ⟨X, hX⟩ : ∃ X, X = x * 2 ^ s := ⟨_, rfl⟩
  have hp : 0 < 2 ^ s := Nat.pow_pos (by omega)
  have hDn : D < WB ^ n := by
    have h5 : y < (tp + 1) * WB ^ (n - 1) := by rw [htpv]; exact part_lt WB y (n - 1) h2
    have h6 : (tp + 1) * 2 ^ s ≤ WB := by
      have h7 : (2 : Nat) ^ s ∣ WB := by unfold WB; rw [Step.two_pow_split s (by omega)]; exact Nat.dvd_mul_right _ _
      obtain ⟨k, hk⟩ := h7
      have h8 : tp * 2 ^ s < 2 ^ s * k := by rw [← hk]; exact hs2
      rw [Nat.mul_comm] at h8
      have h9 : tp < k := Nat.lt_of_mul_lt_mul_left h8
      rw [hk, Nat.mul_comm]
      exact Nat.mul_le_mul_left _ h9
    have h10 : y * 2 ^ s < (tp + 1) * WB ^ (n - 1) * 2 ^ s := Nat.mul_lt_mul_of_pos_right h5 hp
    have h11 : (tp + 1) * WB ^ (n - 1) * 2 ^ s = (tp + 1) * 2 ^ s * WB ^ (n - 1) := Nat.mul_right_comm _ _ _
    have h12 : (tp + 1) * 2 ^ s * WB ^ (n - 1) ≤ WB * WB ^ (n - 1) := Nat.mul_le_mul_right _ h6
    have h13 : WB * WB ^ (n - 1) = WB ^ n := by rw [Nat.mul_comm, ← Nat.pow_succ]; congr 1; omega
    rw [hD]; omega
  have hDl : WB ^ (n - 1) ≤ D := by rw [hD]; exact Nat.le_trans hyl (Nat.le_mul_of_pos_right _ hp)
  have hlD : ln WB D = n := by
    have h3 := ln_le_of_lt WB D n h2 hDn
    have h4 := lt_ln_of_le WB D (n - 1) h2 hDl
    omega
  have hD0 : 0 < D := Nat.lt_of_lt_of_le (Nat.pow_pos (by omega)) hDl
  have hsc := Half.scaled (x := x) (y := y) hp
  rw [← hX, ← hD] at hsc
  have hstart : X / WB ^ (la + 1 - n) < D := by
    rw [hX, hD]
    exact start_small (by rw [hla]; exact lt_pow_ln WB x h2) hyl (by omega) rfl hlxy h2
  have hXlen : X < WB ^ (la + 1) := by
    rw [hX, Nat.pow_succ]
    have h5 : x < WB ^ la := by rw [hla]; exact lt_pow_ln WB x h2
    have h6 : 2 ^ s ≤ WB := by
      have : (2 : Nat) ^ s ≤ 2 ^ 64 := Nat.pow_le_pow_right (by omega) (by omega)
      exact this
    exact Nat.lt_of_lt_of_le (Nat.mul_lt_mul_of_pos_right h5 hp) (Nat.mul_le_mul_left _ h6)
  have C1 := Lib.hid c1
  have C2 : Hid (∀ W, Calls Tryd.prog 76 #[.int .u64 tp] W fun e w' => e = .returned (.int .i64 (s : Nat)) ∧ W = w') := Lib.hid fun W => by rw [hs]; exact lz64 tp htpb W
  have HA := Lib.hid ha
  have HBn := Lib.hid hb
  have C3 : Hid (∀ nq, Calls Tryd.prog 78 #[.slice (some ⟨bb, ob, none⟩) n cb, .int .i64 (s : Nat)] (w.drewN nq) fun e w' => (∃ v, e = .returned v ∧ Wide w w' v (n + 1) D) ∧ Below w.heap.size (w.drewN nq) w') :=
    Lib.hid fun nq => by
      have := shl_any (.slice (some ⟨bb, ob, none⟩) n cb) y s (w.drewN nq) (hb.below (below_drewN nq (Below.refl w.heap.size w)) (Nat.le_refl _)) hs1 (by rw [← hn]; omega)
      rw [← hn, ← hD] at this
      exact this
  have HlD := Lib.hid hlD; clear hlD
  have HDn := Lib.hid hDn; clear hDn
  have Hsc := Lib.hid hsc; clear hsc
  have Hstart := Lib.hid hstart; clear hstart
  have HXlen := Lib.hid hXlen; clear hXlen
  have HX := Lib.hid hX; clear hX
  have Hla := Lib.hid hla; clear hla
  have hn2 : 2 ≤ n := by omega
  have Hl := Lib.hid hl; clear hl
  have hs64 := hs1
  clear c1 ha hb h hc hn htp hyn hyl htpv htp0 htpb hs hs2 hs3 hp hDl hD
  obtain ⟨lq, hlqa, hlqb⟩ : ∃ lq, lq + n ≤ la + 1 ∧ la + 1 ≤ lq + n := ⟨la + 1 - n, by omega, by omega⟩
  rw [show la + 1 - n = lq by omega] at Hstart
  obtain ⟨i0, hi, hz0, hz1, hz2⟩ := info_parts Tryd.info_u64p
  go_enter Tryd.func58, Tryd.ntmps58
  go_wp2_with (first
    | (go_at_call 54; refine C1.out.mono ?_; rintro e w' ⟨rfl, nq, rfl⟩)
    | (go_at_call 76; refine (C2.out _).mono ?_; rintro e w' ⟨rfl, rfl⟩))
  refine (C3.out _).mono ?_
  rintro e w1 ⟨⟨v1, rfl, hv1⟩, hb1⟩
  obtain ⟨ys1, hyl1, hyd1, hyv1, hyr1, hyo1⟩ := hv1.rowF
  have hlt1 : w.heap.size < w1.heap.size := by obtain ⟨_, _, _, _, _, _, _, _, h6⟩ := hv1; exact h6.lt
  clear hv1
  obtain ⟨A1, c1, rfl, _, _, _⟩ := RowF.open hyr1
  have Hyr1 := Lib.hid hyr1; clear hyr1
  have Hyl1 := Lib.hid hyl1; clear hyl1
  have Hyv1 := Lib.hid hyv1; clear hyv1
  have Hyo1 := Lib.hid hyo1; clear hyo1
  have hbw1 : Below w.heap.size w w1 := (below_drewN _ (Below.refl w.heap.size w)).trans hb1
  have C5 := Lib.hid (trimW_at (.slice A1 ys1.length c1) ys1 w1 hyd1 Hyr1.out)
  have C6 : Hid (Calls Tryd.prog 78 #[.slice Aa la ca, .int .i64 (s : Nat)] w1 fun e w' => (∃ v, e = .returned v ∧ Wide w1 w' v (la + 1) X) ∧ Below w1.heap.size w1 w') :=
    Lib.hid (by
      have := shl_any (.slice Aa la ca) x s w1 (HA.out.below hbw1 (Nat.le_refl _)) hs64 (by rw [← Hla.out]; omega)
      rw [← Hla.out, ← HX.out] at this
      exact this)
  have Hbw1 := Lib.hid hbw1; clear hbw1 hb1 hyd1
  go_wp2_with fail
  refine C5.out.mono ?_
  rintro e w' ⟨⟨v1', rfl, hv1', ho1'⟩, rfl⟩
  rw [Hyv1.out] at hv1'
  rw [Hyo1.out] at ho1'
  obtain ⟨A2, c2, rfl, _, _, _⟩ := RowF.open hv1'
  rw [HlD.out] at hv1' ho1' ⊢
  have Hv1' := Lib.hid hv1'; clear hv1'
  have Ho1' := Lib.hid ho1'; clear ho1'
  clear C5
  go_wp2_with fail
  refine C6.out.mono ?_
  rintro e w2 ⟨⟨v2, rfl, hv2⟩, hb2⟩
  obtain ⟨rs0, cr, rfl, hcr1, hcr2, hrl, hrd, hrv, hrr⟩ := hv2
  have Hrl := Lib.hid hrl; clear hrl
  have Hrd := Lib.hid hrd; clear hrd
  have Hrv := Lib.hid hrv; clear hrv
  have Hrr := Lib.hid hrr; clear hrr
  clear C6
  have Hb2 := Lib.hid hb2; clear hb2
  unfold maxLen at hcr2
  go_wp2_with (at_make; refine wpList_make_full _ rfl _ _ 41 rfl w2.heap.size 64 i0 (.int .u64 0) 1 Tryd.underlying41 hi hz0 hz1 _ _ _ _ lq rfl rfl (by omega) (by omega) ?b2 ?b3 (Nat.le_refl _) ?_)
  case b2 => rw [hz2]; omega
  case b3 => unfold maxLen; omega
  intro w3 hown3 hgrow3
  have hrow3 := own_rowW (made_own hown3)
  have hb3 : Below w2.heap.size w2 w3 := (Below.refl _ _).grown hgrow3 (Nat.le_refl _) (fun k h => by cases h)
  clear hown3 hgrow3
  have Hrow3 := Lib.hid hrow3; clear hrow3
  have Hb3 := Lib.hid hb3; clear hb3
  obtain ⟨g1, hg1⟩ : ∃ g, g = w1.heap.size := ⟨_, rfl⟩
  obtain ⟨g2, hg2⟩ : ∃ g, g = w2.heap.size := ⟨_, rfl⟩
  have hg12 : g1 < g2 := by rw [hg1, hg2]; exact Hrr.out.lt
  rw [← hg1] at Hrr ⊢
  rw [← hg2] at Hrow3 ⊢
  have Hg1 := Lib.hid hg1; clear hg1
  have Hg2 := Lib.hid hg2; clear hg2
  have HA2 : Hid (w.heap.size < g1) := Lib.hid (by rw [Hg1.out]; exact hlt1)
  clear hlt1
  go_wp2_with fail
  go_loopw [12] (fun i wr => ∃ (k : Nat) (rs qs : List Nat), i = .int .i64 ((k : Int) - 1) ∧ k ≤ lq ∧ rs.length = la + 1 ∧ Dig WB rs ∧ val WB rs = left WB X D k ∧ qs.length = lq ∧ Dig WB qs ∧ val WB (qs.drop k) = X / WB ^ k / D ∧ RowW 64 wr g1 0 rs ∧ RowW 64 wr g2 0 qs ∧ Below g1 w1 wr) (fun i _ => ((intOf i) + 1).toNat)
  case atStart =>
    have e3 : val WB rs0 = left WB X D lq := by
      rw [Hrv.out, left, Nat.mod_eq_of_lt Hstart.out]
      exact (Nat.mod_add_div X (WB ^ lq)).symm
    have hb12 : Below g1 w1 w2 := by rw [Hg1.out]; exact Hb2.out
    have hb23 : Below g1 w2 w3 := Hb3.out.mono (by rw [← Hg2.out]; omega)
    exact ⟨lq, rs0, _, rfl, Nat.le_refl _, Hrl.out, Hrd.out, e3, by simp, rep_dig _, by rw [List.drop_of_length_le (by simp), Nat.div_eq_of_lt Hstart.out]; simp [val], Hrr.out.below Hb3.out (by rw [← Hg2.out]; exact hg12), Hrow3.out, hb12.trans hb23⟩
  case round =>
    clear Hrow3 Hrr Hrl Hrd Hrv Hb2 Hb3 Hstart
    obtain ⟨k, rs, qs, rfl, hkl, hrl, hrd, hrv, hql, hqd, hqv, hrr, hqr, hbel⟩ := hrel
    have Hrl := Lib.hid hrl; clear hrl
    have Hrd := Lib.hid hrd; clear hrd
    have Hrv := Lib.hid hrv; clear hrv
    have Hql := Lib.hid hql; clear hql
    have Hqd := Lib.hid hqd; clear hqd
    have Hqv := Lib.hid hqv; clear hqv
    have Hrr := Lib.hid hrr; clear hrr
    have Hqr := Lib.hid hqr; clear hqr
    have Hbel := Lib.hid hbel; clear hbel
    by_cases hk0 : 1 ≤ k
    · obtain ⟨q, rfl⟩ : ∃ q, k = q + 1 := ⟨k - 1, by omega⟩
      have hq1 : q + (n + 1) ≤ la + 1 := by omega
      have hcrq : ¬ cr = q := by omega
      obtain ⟨ws, hws⟩ : ∃ ws, ws = (rs.drop q).take (n + 1) := ⟨_, rfl⟩
      have hwl : ws.length = n + 1 := by rw [hws, List.length_take, List.length_drop, Hrl.out]; omega
      have hwd : Dig WB ws := by rw [hws]; exact (Hrd.out.drop q).take _
      have hwv := window_val (n := n) h2 hD0 HDn.out rs Hrd.out (by rw [Hrl.out]; omega) Hrv.out
      rw [← hws] at hwv
      obtain ⟨T, hT⟩ : ∃ T, T = X / WB ^ (q + 1) % D * WB + dg WB X q := ⟨_, rfl⟩
      rw [← hT] at hwv
      have hwr : RowW 64 wr g1 q ws := by
        have := Hrr.out.part q (n + 1) (by rw [Hrl.out]; omega)
        rwa [Nat.zero_add, ← hws] at this
      have c7 := divStep_any g1 q (cr - q) n c2 m ws A2 D wr hwr hwd hwl (Hv1'.out.below (B := g1) Hbel.out (Nat.le_of_eq Hg1.out.symm)) HlD.out.symm Hl.out (by rw [Ho1'.out]; have := HA2.out; intro e; injection e with e; omega) (by rw [hwv.1]; exact hwv.2) (by omega)
      rw [hwv.1] at c7
      have C7 := Lib.hid c7; clear c7
      obtain ⟨Z, hZ⟩ : ∃ Z, Z = T / D := ⟨_, rfl⟩
      rw [← hZ] at C7
      have hst := div_next_b WB X D q h2 hD0
      rw [← hT, ← hZ] at hst
      have hZb : Z < WB := by rw [hZ, Nat.div_lt_iff_lt_mul hD0]; exact hwv.2
      have HT := Lib.hid hT
      have Hst := Lib.hid hst
      have HZb := Lib.hid hZb
      clear hws hwl hwd hwv hT hwr hZ hst hZb
      have hne21 : g2 ≠ g1 := by omega
      have hqlt : q < lq := by omega
      go_wp2_with fail
      rw [show q + n + 1 - q = n + 1 by omega]
      refine C7.out.mono ?_
      rintro e w4 ⟨⟨zs, rfl, hzl, hzd, hzv, hzr⟩, hwz⟩
      have hqr4 := Hqr.out.wrote hwz hne21
      have hrr4 := Hrr.out.patch (i := q) (ys := zs) (by rw [hzl, Hrl.out]; omega) (by rw [hzl, Nat.zero_add]; exact hwz) (by rw [Nat.zero_add]; exact hzr)
      have hbel4 : Below g1 w1 w4 := Hbel.out.trans (hwz.below (Nat.le_refl _))
      have hq4 : q < qs.length := by rw [Hql.out]; exact hqlt
      have hcQ : w4.cell? ⟨g2, q, none⟩ = some (.int .u64 (qs.getD q 0 : Nat)) := by have := hqr4.cell (j := q) hq4; rwa [Nat.zero_add] at this
      have hfQ : w4.frozen? ⟨g2, q, none⟩ = false := hqr4.free _
      have hqr5 := hqr4.set q hq4 Z
      rw [Nat.zero_add] at hqr5
      have Hqr5 := Lib.hid hqr5
      have Hrr5 := Lib.hid (hrr4.far (p := ⟨g2, q, none⟩) (fun e => hne21 e.symm) (.int .u64 (Z : Nat)))
      have Hbel5 := Lib.hid (hbel4.setCell (p := ⟨g2, q, none⟩) (Nat.le_of_lt hg12) (.int .u64 (Z : Nat)))
      have hrv5 : val WB (rs.take q ++ zs ++ rs.drop (q + zs.length)) = left WB X D q :=
        left_patch (n := n) h2 hD0 HDn.out rs zs Hrd.out hzd (by rw [Hrl.out]; omega) hzl Hrv.out (by rw [← HT.out]; exact hzv)
      have Hrv5 := Lib.hid hrv5
      have Hrl5 : Hid ((rs.take q ++ zs ++ rs.drop (q + zs.length)).length = la + 1) := Lib.hid (by simp only [List.length_append, List.length_take, List.length_drop, Hrl.out, hzl]; omega)
      have Hrd5 : Hid (Dig WB (rs.take q ++ zs ++ rs.drop (q + zs.length))) := Lib.hid (((Hrd.out.take q).append hzd).append (Hrd.out.drop _))
      have Hqv5 : Hid (val WB ((qs.set q Z).drop q) = X / WB ^ q / D) := Lib.hid (by
        rw [val_drop_step _ _ _ (by rw [List.length_set]; exact hq4), List.getElem_set_self, List.drop_set_of_lt (Nat.lt_add_one _), Hqv.out, Hst.out.1]; exact Nat.add_comm _ _)
      clear hqr4 hrr4 hbel4 hqr5 hrv5 hzl hzd hzv hzr hwz
      go_wp2_with fail
      go_roundw
      case rel => exact ⟨q, _, _, by go_num, by omega, Hrl5.out, Hrd5.out, Hrv5.out, by rw [List.length_set]; exact Hql.out, Hqd.out.put _ HZb.out, Hqv5.out, Hrr5.out, Hqr5.out, Hbel5.out⟩
      case measure => simp [intOf]
    · obtain rfl : k = 0 := by omega
      have hv0 := Hrv.out
      rw [left, Nat.pow_zero, Nat.mod_one, Nat.one_mul, Nat.zero_add, Nat.div_one] at hv0
      have hq0 := Hqv.out
      rw [List.drop_zero, Nat.pow_zero, Nat.div_one] at hq0
      have hqrow := Hqr.out.rowF (cap := lq) (by rw [Hql.out]; omega) (by unfold maxLen; omega)
      rw [Hql.out] at hqrow
      have hts : val WB (rs.take n) = X % D := by
        rw [val_take WB rs Hrd.out n (by rw [Hrl.out]; omega), hv0, Nat.mod_eq_of_lt (Nat.lt_trans (Nat.mod_lt _ hD0) HDn.out)]
      have htl : (rs.take n).length = n := by rw [List.length_take, Hrl.out]; omega
      have htrow : RowW 64 wr g1 0 (rs.take n) := by
        have := Hrr.out.part 0 n (by rw [Hrl.out]; omega)
        simpa using this
      have htrow2 := htrow.rowF (cap := cr) (by rw [htl]; omega) (by unfold maxLen; omega)
      rw [htl] at htrow2
      have C8 : Hid (∀ W, wr.heap.size ≤ W.heap.size → Below wr.heap.size wr W → Calls Tryd.prog 53 #[.slice (some ⟨g2, 0, none⟩) lq lq] W fun e w' => (∃ v', e = .returned v' ∧ Nums 64 .u64 WB W v' (x / y)) ∧ W = w') :=
        Lib.hid fun W hs hb => by
          have := trimW_any (.slice (some ⟨g2, 0, none⟩) lq lq) qs W Hqd.out (by rw [Hql.out]; exact hqrow.below hb (Nat.le_refl _))
          rw [hq0, Hsc.out.1] at this
          exact this
      have C9 : Hid (∀ W, Below wr.heap.size wr W → Calls Tryd.prog 80 #[.slice (some ⟨g1, 0, none⟩) n cr, .int .i64 (s : Nat)] W fun e w' => (∃ v, e = .returned v ∧ Wide W w' v n (x % y)) ∧ Below W.heap.size W w') :=
        Lib.hid fun W hb => by
          have := shr_any (some ⟨g1, 0, none⟩) n cr (rs.take n) s W (htrow2.below hb (Nat.le_refl _)) (Hrd.out.take n) htl hs64 (by omega)
          rw [hts, Hsc.out.2] at this
          exact this
      clear hv0 hq0 hqrow hts htl htrow htrow2
      have hbelr := Hbw1.out.trans (Hbel.out.mono (by have := HA2.out; omega))
      have Hbelr := Lib.hid hbelr; clear hbelr
      go_wp2_with fail
      have hself : Below wr.heap.size wr wr.drew := (Below.refl _ wr).drew
      have Hself := Lib.hid hself; clear hself
      go_region_with (first
        | (go_at_call_of 53 (Value.slice (some ⟨g2, 0, none⟩) lq lq); refine (C8.out _ (by first | exact Hself.out.size | exact HB5.out.size) (by first | exact Hself.out | exact HB5.out)).mono ?_; rintro e w' ⟨⟨v7, rfl, hv7⟩, rfl⟩; have Hv7 := Lib.hid hv7; clear hv7)
        | (go_at_call 80; refine (C9.out _ Hself.out).mono ?_; rintro e w5 ⟨⟨v5, rfl, hv5⟩, hb5⟩; have HB5 := Lib.hid (below_of_drew hb5); clear hb5; obtain ⟨ys5, h5l, h5d, h5v, h5r, h5o⟩ := hv5.rowF; clear hv5; obtain ⟨A5, c5, rfl, _, _, _⟩ := RowF.open h5r; have H5r := Lib.hid h5r; have H5l := Lib.hid h5l; have H5v := Lib.hid h5v; have H5o := Lib.hid h5o; clear h5r h5l h5v h5o)
        | (go_at_call 53; refine (trimW_at _ ys5 w5 h5d H5r.out).mono ?_; rintro e w' ⟨⟨v8, rfl, hv8, ho8⟩, rfl⟩; have Hv8 := Lib.hid hv8; have Ho8 := Lib.hid ho8; clear hv8 ho8))
      all_goals go_wp2_with fail
      all_goals go_ret2
      all_goals
        have hv8 := Hv8.out
        rw [H5v.out] at hv8
        have ho8 : Fresh w.heap.size v8 := fun k hk => by
          rw [Ho8.out, H5o.out] at hk
          injection hk with hk
          rw [← hk]
          exact Hbelr.out.size
        refine ⟨⟨v7, v8, rfl, ?_, hv8, ho8⟩, Hbelr.out.trans (HB5.out.mono Hbelr.out.size)⟩
        first | exact Hv7.out | exact (show Nums 64 .u64 WB wr v7 (x / y) from Hv7.out).below HB5.out (Nat.le_refl _)

/-- The program's division of numbers. -/
theorem divNats_any (va vb : Value) (x y : Nat) (w : World) (ha : Nums 64 .u64 WB w va x) (hb : Nums 64 .u64 WB w vb y) (hy : 0 < y) (hlx : ln WB x ≤ 549755813888) :
    Calls Tryd.prog 58 #[va, vb] w fun e w' => (∃ v v', e = .returned (.tuple #[v, v']) ∧ Nums 64 .u64 WB w' v (x / y) ∧ Nums 64 .u64 WB w' v' (x % y)) ∧ Below w.heap.size w w' := by
  have h2 := WB_two
  by_cases h : x < y
  · refine (divNats_less va vb x y w ha hb h).mono ?_
    rintro e w' ⟨rfl, nq, rfl⟩
    have hb' := below_drewN nq (Below.refl w.heap.size w)
    refine ⟨⟨_, _, rfl, ?_, ?_⟩, hb'⟩
    · rw [Nat.div_eq_of_lt h]; exact .inl ⟨rfl, rfl⟩
    · rw [Nat.mod_eq_of_lt h]; exact ha.below hb' (Nat.le_refl _)
  · by_cases hl : ln WB y = 1
    · exact divNats_word va vb x y w ha hb (by omega) hl hlx
    · have hl0 : ln WB y ≠ 0 := fun e => by have := (ln_eq_zero WB y h2).1 e; omega
      refine (divNats_big va vb x y (ln WB y - 2) w ha hb (by omega) (by omega) hlx).mono ?_
      rintro e w' ⟨⟨v, v', he, h1, h3, _⟩, hb'⟩
      exact ⟨⟨v, v', he, h1, h3⟩, hb'⟩

end Go.Proofs.YtbcckgofoknmbaaDoor
