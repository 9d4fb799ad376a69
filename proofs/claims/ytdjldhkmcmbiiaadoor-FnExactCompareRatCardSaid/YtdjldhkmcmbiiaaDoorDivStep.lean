/-
  A step of the program's long division: the quotient of a window by the divisor, the rest left in the window.
-/
import Derived.Test.YtdjldhkmcmbiiaaDoorDivW
import Derived.Test.YtdjldhkmcmbiiaaDoorSubMul
import Derived.Test.YtdjldhkmcmbiiaaDoorPureM
import Derived.Test.YtdjldhkmcmbiiaaDoorDivWord
import Derived.Deep.DeepCutAuto
namespace Go.Proofs.YtdjldhkmcmbiiaaDoor
open Go.RowKit Num

theorem mul64_same (x y lo hi : Nat) (hx : x < WB) (hy : y < WB) (h1 : hi = x * y / WB) (h2 : lo = x * y % WB) (w : World) :
    Calls Tryd.prog 131 #[.int .u64 x, .int .u64 y] w fun e w' => e = .returned (.tuple #[.int .u64 (hi : Nat), .int .u64 (lo : Nat)]) ∧ w = w' := by
  rw [h1, h2]
  exact (Tryd.bits_Mul64 x y hx hy w).mono fun e w' ⟨he, hw⟩ => ⟨he, hw.symm⟩

/-- What the guess, its rest and its product with the second word are at the head of the loop. -/
structure GuessAt (Q top D2 W2 G R H L : Nat) : Prop where
  ge : Q ≤ G
  eq : G * top + R = W2
  hG : G < WB
  hR : R < WB
  hH : H = G * D2 / WB
  hL : L = G * D2 % WB

theorem pass_iff {H L R w2 p : Nat} (hH : H = p / WB) (hL : L = p % WB) (hw : w2 < WB) : (R * WB + w2 < p) ↔ (R < H ∨ (H = R ∧ w2 < L)) := by
  have h := Nat.div_add_mod p WB
  rw [← hH, ← hL] at h
  have hl : L < WB := by rw [hL]; exact Nat.mod_lt _ (by unfold WB; omega)
  unfold WB at *
  omega

set_option maxRecDepth 100000 in
set_option maxHeartbeats 3200000 in
theorem divStep_any (g off ca n cd m : Nat) (xs : List Nat) (Ad : Option Addr) (D : Nat) (w : World) (hx : RowW 94 w g off xs) (hd : Dig WB xs) (hl : xs.length = n + 1) (hb : Nums 94 .u64 WB w (.slice Ad n cd) D) (hn : n = ln WB D) (hm : n = m + 2) (hne : (Value.slice Ad n cd).ownBlock ≠ some g) (hW : val WB xs < WB * D) (hlm : n ≤ 1099511627776) :
    Calls Tryd.prog 104 #[.slice (some ⟨g, off, none⟩) (n + 1) ca, .slice Ad n cd] w fun e w' => (∃ ys, e = .returned (.int .u64 (val WB xs / D : Nat)) ∧ ys.length = n + 1 ∧ Dig WB ys ∧ val WB ys = val WB xs % D ∧ RowW 94 w' g off ys) ∧ Wrote g off (off + (n + 1)) w w' := by
  have h2 := WB_two
  obtain ⟨V, hV⟩ : ∃ V, V = val WB xs := ⟨_, rfl⟩
  have hDb : D < WB ^ (m + 2) := by rw [← hm, hn]; exact lt_pow_ln WB D h2
  have hVb : V < WB ^ (m + 3) := by rw [hV]; have := val_lt WB xs hd; rw [hl, hm] at this; exact this
  have hD0 : 0 < D := Nat.pos_of_ne_zero fun e => by rw [e, ln_zero] at hn; omega
  have xg : ∀ j, xs.getD j 0 = dg WB V j := fun j => by rw [getD_val WB xs hd, hV, dg_eq WB h2]
  obtain ⟨top, htop⟩ : ∃ top, top = dg WB D (m + 1) := ⟨_, rfl⟩
  obtain ⟨D2, hD2⟩ : ∃ D2, D2 = dg WB D m := ⟨_, rfl⟩
  obtain ⟨w0, hw0⟩ : ∃ w0, w0 = dg WB V (m + 2) := ⟨_, rfl⟩
  obtain ⟨w1, hw1⟩ : ∃ w1, w1 = dg WB V (m + 1) := ⟨_, rfl⟩
  obtain ⟨w2, hw2⟩ : ∃ w2, w2 = dg WB V m := ⟨_, rfl⟩
  have ht0 : 0 < top := by
    have := top_le WB D (m + 1) h2 (by omega)
    rw [htop, ← div_top WB D (m + 1) h2 hDb]
    exact Nat.div_pos this (Nat.pow_pos (by omega))
  have htb : top < WB := by rw [htop]; exact dg_lt _ _ _ h2
  have hD2b : D2 < WB := by rw [hD2]; exact dg_lt _ _ _ h2
  have hw0b : w0 < WB := by rw [hw0]; exact dg_lt _ _ _ h2
  have hw1b : w1 < WB := by rw [hw1]; exact dg_lt _ _ _ h2
  have hw2b : w2 < WB := by rw [hw2]; exact dg_lt _ _ _ h2
  rw [← hV] at hW ⊢
  obtain ⟨Q, hQ⟩ : ∃ Q, Q = V / D := ⟨_, rfl⟩
  have hQb : Q < WB := by rw [hQ, Nat.div_lt_iff_lt_mul hD0]; exact hW
  have hcw0 : w.cell? ⟨g, off + n, none⟩ = some (.int .u64 (w0 : Nat)) := by rw [hw0, ← xg, show m + 2 = n from by omega]; exact hx.cell (by omega)
  have hcw1 : w.cell? ⟨g, off + (n - 1), none⟩ = some (.int .u64 (w1 : Nat)) := by rw [hw1, ← xg, show m + 1 = n - 1 from by omega]; exact hx.cell (by omega)
  have hcw2 : w.cell? ⟨g, off + (n - 2), none⟩ = some (.int .u64 (w2 : Nat)) := by rw [hw2, ← xg, show m = n - 2 from by omega]; exact hx.cell (by omega)
  obtain ⟨bd, od, rfl, hcd1⟩ := hb.get hn (show n - 1 < n by omega)
  have hcd2 : w.cell? ⟨bd, od + (n - 2), none⟩ = some (.int .u64 (D2 : Nat)) := by
    obtain ⟨b3, o3, h3, hc3⟩ := hb.get hn (show n - 2 < n by omega)
    injection h3 with h3
    injection h3 with h4 h5
    rw [← h4, ← h5, show n - 2 = m from by omega, ← hD2] at hc3
    rw [show n - 2 = m from by omega]
    exact hc3
  rw [show n - 1 = m + 1 from by omega, ← htop, show m + 1 = n - 1 from by omega] at hcd1
  have hfin : ∀ G V' : Nat, V' + G * D = V → Q ≤ G → G = Q ∧ V' = V % D := fun G V' h1 h3 => by rw [hQ] at h3 ⊢; exact guess_done hD0 h1 h3
  have Hfin := Lib.hid hfin; clear hfin
  have hover : ∀ G V' t : Nat, V' + G * D = V + t * WB ^ (n + 1) → V' < WB ^ (n + 1) → t ≠ 0 → Q < G := fun G V' t h1 h3 h4 => by rw [hQ]; exact guess_over h1 h3 h4
  have Hover := Lib.hid hover; clear hover
  have hless : ∀ G R : Nat, G * top + R = w0 * WB + w1 → R * WB + w2 < G * D2 → Q < G := fun G R h1 h3 => by
    rw [hQ]; rw [htop, hw0, hw1] at h1; rw [hw2, hD2] at h3; exact guess_less h2 hDb hVb h1 h3
  have Hless := Lib.hid hless; clear hless
  have hfirst : Q ≤ (w0 * WB + w1) / top := by
    rw [hQ, hw0, hw1, htop]; exact guess_first h2 hDb hVb (by rw [← htop]; exact ht0) hD0
  have Hfirst := Lib.hid hfirst; clear hfirst
  rw [← hQ]
  have HV := Lib.hid hV; clear hV
  have HQ := Lib.hid hQ; clear hQ
  have Hx := Lib.hid hx; clear hx
  have Hd := Lib.hid hd; clear hd
  have Hl := Lib.hid hl; clear hl
  have Hb := Lib.hid hb; clear hb
  have Hn := Lib.hid hn; clear hn
  have Hne := Lib.hid hne; clear hne
  have Hm := Lib.hid hm
  have hn2 : 2 ≤ n := by omega
  have HW := Lib.hid hW; clear hW
  have HQb := Lib.hid hQb; clear hQb
  clear hm xg htop hD2 hw0 hw1 hw2 hDb hVb
  have Htb := Lib.hid htb; clear htb
  have HD2b := Lib.hid hD2b; clear hD2b
  have Hw0b := Lib.hid hw0b; clear hw0b
  have Hw1b := Lib.hid hw1b; clear hw1b
  have Hw2b := Lib.hid hw2b; clear hw2b
  have hu : IntKind.i64.wrap ((n : Int) - 1) = (n : Int) - 1 := IntWalk.i64_in _ (by omega)
  go_enter Tryd.func104, Tryd.ntmps104
  go_upto_if 24 with fail
  go_cut [6] (fun s6 wx => ∃ G nq : Nat, s6 = .int .u64 (G : Nat) ∧ wx = w.drewN nq ∧ Q ≤ G ∧ G < WB)
  case first =>
    by_cases ht : w0 < top
    · obtain ⟨G0, hG0⟩ : ∃ G0, G0 = (w0 * WB + w1) / top := ⟨_, rfl⟩
      obtain ⟨R0, hR0⟩ : ∃ R0, R0 = (w0 * WB + w1) % top := ⟨_, rfl⟩
      have C1 := Lib.hid (div64_any w0 w1 top G0 R0 Hw1b.out Htb.out ht hG0 hR0)
      obtain ⟨H0, hH0⟩ : ∃ H, H = G0 * D2 / WB := ⟨_, rfl⟩
      obtain ⟨L0, hL0⟩ : ∃ L, L = G0 * D2 % WB := ⟨_, rfl⟩
      have hG0b : G0 < WB := by rw [hG0]; exact quo_lt ht Hw1b.out
      have hR0b : R0 < WB := by rw [hR0]; exact Nat.lt_trans (Nat.mod_lt _ ht0) Htb.out
      have C2 := Lib.hid (mul64_same G0 D2 L0 H0 hG0b HD2b.out hH0 hL0)
      have hat0 : GuessAt Q top D2 (w0 * WB + w1) G0 R0 H0 L0 := ⟨by rw [hG0]; exact Hfirst.out, by rw [hG0, hR0, Nat.mul_comm]; exact Nat.div_add_mod _ _, hG0b, hR0b, hH0, hL0⟩
      have Hat0 := Lib.hid hat0; clear hat0
      clear hG0 hR0 hH0 hL0 hG0b hR0b
      go_wp2_with fail
      go_quiet ((go_at_call 129; exact Calls.quiet_of (C1.out _)))
      go_wp2_with (go_at_call 131; refine (C2.out _).mono ?_; rintro e w' ⟨rfl, rfl⟩)
      clear C1 C2
      go_loop [6, 8, 9, 10] (fun a b c d => ∃ G R H L : Nat, a = .int .u64 (G : Nat) ∧ b = .int .u64 (R : Nat) ∧ c = .int .u64 (H : Nat) ∧ d = .int .u64 (L : Nat) ∧ GuessAt Q top D2 (w0 * WB + w1) G R H L) (fun a _ _ _ => (intOf a).toNat)
      case atStart => exact ⟨G0, R0, H0, L0, rfl, rfl, rfl, rfl, Hat0.out⟩
      case round =>
        clear Hat0
        obtain ⟨G, R, H, L, rfl, rfl, rfl, rfl, hat⟩ := hrel
        have Hat := Lib.hid hat; clear hat
        have hpass := pass_iff (R := R) Hat.out.hH Hat.out.hL Hw2b.out
        by_cases hc : R < H ∨ (H = R ∧ w2 < L)
        · have hq := Hless.out G R Hat.out.eq (hpass.2 hc)
          obtain ⟨G', hG'⟩ : ∃ G', G' = G - 1 := ⟨_, rfl⟩
          obtain ⟨R', hR'⟩ : ∃ R', R' = (R + top) % WB := ⟨_, rfl⟩
          obtain ⟨H', hH'⟩ : ∃ H', H' = G' * D2 / WB := ⟨_, rfl⟩
          obtain ⟨L', hL'⟩ : ∃ L', L' = G' * D2 % WB := ⟨_, rfl⟩
          have hGb := Hat.out.hG
          have hRb := Hat.out.hR
          have htb := Htb.out
          have kG : IntKind.u64.wrap ((G : Int) - 1) = (G' : Int) := by unfold WB at hGb; rw [IntWalk.u64_in _ (by omega)]; omega
          have kR : IntKind.u64.wrap ((R : Int) + (top : Int)) = (R' : Int) := by rw [IntKind.wrap_u64, hR']; unfold WB; omega
          have C3 := Lib.hid (mul64_same G' D2 L' H' (by omega) HD2b.out hH' hL')
          have Hmore : Hid (Q ≤ G' ∧ G' < WB ∧ G' < G) := Lib.hid ⟨by omega, by omega, by omega⟩
          have hnext : ¬ R' < top → GuessAt Q top D2 (w0 * WB + w1) G' R' H' L' := fun h => by
            have hno : R + top < WB := by
              apply Nat.lt_of_not_le
              intro hle
              rw [hR', Nat.mod_eq_sub_mod hle, Nat.mod_eq_of_lt (by omega)] at h
              omega
            have hR2 : R' = R + top := by rw [hR', Nat.mod_eq_of_lt hno]
            refine ⟨by omega, ?_, by omega, by omega, hH', hL'⟩
            have e := Hat.out.eq
            obtain ⟨p, rfl⟩ : ∃ p, G = p + 1 := ⟨G - 1, by omega⟩
            rw [show G' = p by omega, hR2, ← e, Nat.add_mul, Nat.one_mul]; omega
          have Hnext := Lib.hid hnext; clear hnext
          clear hpass hq hGb hRb htb hG' hR' hH' hL'
          by_cases hA : R < H
          · clear hc
            by_cases hov : R' < top
            · go_wp2_with fail
              go_meet
              exact ⟨G', _, rfl, rfl, Hmore.out.1, Hmore.out.2.1⟩
            · have Hn' := Lib.hid (Hnext.out hov)
              go_wp2_with (go_at_call 131; refine (C3.out _).mono ?_; rintro e w' ⟨rfl, rfl⟩)
              go_round
              case rel => exact ⟨G', R', H', L', rfl, rfl, rfl, rfl, Hn'.out⟩
              case measure => have := Hmore.out.2.2; simp [intOf]; omega
          · have hE : H = R := by omega
            have hLt : w2 < L := by omega
            clear hc hA
            subst hE
            by_cases hov : R' < top
            · go_wp2_with fail
              go_meet
              exact ⟨G', _, rfl, rfl, Hmore.out.1, Hmore.out.2.1⟩
            · have Hn' := Lib.hid (Hnext.out hov)
              go_wp2_with (go_at_call 131; refine (C3.out _).mono ?_; rintro e w' ⟨rfl, rfl⟩)
              go_round
              case rel => exact ⟨G', R', H', L', rfl, rfl, rfl, rfl, Hn'.out⟩
              case measure => have := Hmore.out.2.2; simp [intOf]; omega
        · have hfin := Lib.hid Hat.out.ge
          have hfin2 := Lib.hid Hat.out.hG
          have hA : ¬ R < H := fun h => hc (.inl h)
          clear hpass
          by_cases hE : H = R
          · have hLt : ¬ w2 < L := fun h => hc (.inr ⟨hE, h⟩)
            clear hc hA
            subst hE
            go_wp2_with fail
            go_meet
            exact ⟨G, _, rfl, rfl, hfin.out, hfin2.out⟩
          · clear hc
            go_wp2_with fail
            go_meet
            exact ⟨G, _, rfl, rfl, hfin.out, hfin2.out⟩
    · go_wp2_with fail
      go_meet
      exact ⟨18446744073709551615, 0, rfl, rfl, by have := HQb.out; unfold WB at this; omega, by unfold WB; omega⟩
  case rest =>
    obtain ⟨G, nq, rfl, rfl, hG1, hG2⟩ := hcut
    have HG1 := Lib.hid hG1; clear hG1
    have HG2 := Lib.hid hG2; clear hG2
    have C4 := Lib.hid (subMul_any g off ca (n + 1) xs (.slice (some ⟨bd, od, none⟩) n cd) D G (w.drewN nq) HG2.out (Hx.out.drewN nq) Hd.out Hl.out (by unfold maxLen; omega) (Hb.out.below (below_drewN nq (Below.refl w.heap.size w)) (Nat.le_refl _)) Hne.out (by rw [← Hn.out]; omega))
    go_wp2_with (go_at_call 132; refine C4.out.mono ?_; rintro e w' ⟨⟨ys, t, rfl, ht, hyl, hyd, hyv, hyr⟩, hwr⟩; have HS := Lib.hid (And.intro ht (And.intro hyl (And.intro hyd (And.intro hyv (And.intro hyr hwr))))); clear ht hyl hyd hyv hyr hwr)
    go_loopw [6, 11] (fun a b wr => ∃ (G t : Nat) (ys : List Nat), a = .int .u64 (G : Nat) ∧ b = .int .u64 (t : Nat) ∧ Q ≤ G ∧ G < WB ∧ t < WB ∧ ys.length = n + 1 ∧ Dig WB ys ∧ val WB ys + G * D = V + t * WB ^ (n + 1) ∧ RowW 94 wr g off ys ∧ Wrote g off (off + (n + 1)) w wr) (fun a _ _ => (intOf a).toNat)
    case atStart =>
      obtain ⟨ht, hyl, hyd, hyv, hyr, hwr⟩ := HS.out
      exact ⟨G, t, ys, rfl, rfl, HG1.out, HG2.out, ht, hyl, hyd, by rw [HV.out]; exact hyv, hyr, (Wrote.drewN nq (Wrote.refl _ _ _ w)).trans hwr⟩
    case round =>
      clear HS HG1 HG2 C4
      obtain ⟨G, t, ys, rfl, rfl, hQG, hGb, htb, hlen, hdig, hval, hrow, hwr⟩ := hrel
      have Hlen := Lib.hid hlen; clear hlen
      have Hdig := Lib.hid hdig; clear hdig
      have Hval := Lib.hid hval; clear hval
      have Hrow := Lib.hid hrow; clear hrow
      have Hwr := Lib.hid hwr; clear hwr
      by_cases ht : t = 0
      · subst ht
        have hv := Hval.out
        rw [Nat.zero_mul, Nat.add_zero] at hv
        have HF := Lib.hid (Hfin.out _ _ hv hQG)
        clear hv hQG hGb htb
        go_wp2_with fail
        go_ret
        exact ⟨⟨ys, by rw [HF.out.1]; rfl, Hlen.out, Hdig.out, HF.out.2, Hrow.out⟩, Hwr.out⟩
      · have hlt : val WB ys < WB ^ (n + 1) := by have := val_lt WB ys Hdig.out; rwa [Hlen.out] at this
        have hq := Hover.out G _ t Hval.out hlt ht
        obtain ⟨G', hG'⟩ : ∃ G', G' = G - 1 := ⟨_, rfl⟩
        have kG : IntKind.u64.wrap ((G : Int) - 1) = (G' : Int) := by unfold WB at hGb; rw [IntWalk.u64_in _ (by omega)]; omega
        have C5 := Lib.hid (addInto_any g off ca (n + 1) ys (.slice (some ⟨bd, od, none⟩) n cd) D wr Hrow.out Hdig.out Hlen.out (by unfold maxLen; omega) (Hb.out.wrote Hwr.out Hne.out) Hne.out (by rw [← Hn.out]; omega))
        have HG' : Hid (Q ≤ G' ∧ G' < WB ∧ G' < G ∧ G = G' + 1) := Lib.hid ⟨by omega, by omega, by omega, by omega⟩
        have htb1 : 1 ≤ t := by omega
        have htne : ¬ t = 0 := ht
        have htb2 : t < 18446744073709551616 := htb
        have Htb := Lib.hid htb; clear htb
        clear hlt hq hG' hQG hGb ht
        go_wp2_with (go_at_call 133; refine C5.out.mono ?_; rintro e w' ⟨⟨zs, c, rfl, hc, hzl, hzd, hzv, hzr⟩, hwz⟩; have HS := Lib.hid (And.intro hzl (And.intro hzd (And.intro hzv (And.intro hzr hwz)))); clear hzl hzd hzv hzr hwz)
        go_roundw
        case rel =>
          obtain ⟨hzl, hzd, hzv, hzr, hwz⟩ := HS.out
          refine ⟨G', t - c, zs, rfl, ?_, HG'.out.1, HG'.out.2.1, by have := Htb.out; omega, hzl, hzd, ?_, hzr, Hwr.out.trans hwz⟩
          · first | (rw [show ((t - c : Nat) : Int) = (t : Int) - c by omega]) | (congr 1; omega)
          · have h1 := Hval.out
            rw [HG'.out.2.2.2, Nat.add_mul, Nat.one_mul] at h1
            rw [Nat.sub_mul]
            have h3 : c * WB ^ (n + 1) ≤ t * WB ^ (n + 1) := Nat.mul_le_mul_right _ (by omega)
            omega
        case measure => have := HG'.out.2.2.1; simp [intOf]; omega

end Go.Proofs.YtdjldhkmcmbiiaaDoor
