/-
  The model's decimal text of a natural number.
-/
import Derived.Test.YtlfogpollmagoaaDoorText
namespace Go.Proofs.YtlfogpollmagoaaDoor
open Go.RowKit Num

theorem decL_step4 (q d : Nat) (hq : 0 < q) (hd : d < 10000) : decL (10000 * q + d) = decL q ++ [UInt8.ofNat (48 + d / 1000), UInt8.ofNat (48 + d / 100 % 10), UInt8.ofNat (48 + d / 10 % 10), UInt8.ofNat (48 + d % 10)] := by
  rw [decL_step (10000 * q + d) (by omega), decL_step ((10000 * q + d) / 10) (by omega), decL_step ((10000 * q + d) / 10 / 10) (by omega), decL_step ((10000 * q + d) / 10 / 10 / 10) (by omega)]
  rw [show (10000 * q + d) / 10 / 10 / 10 / 10 = q from by omega, show (10000 * q + d) / 10 / 10 / 10 % 10 = d / 1000 from by omega, show (10000 * q + d) / 10 / 10 % 10 = d / 100 % 10 from by omega,
    show (10000 * q + d) / 10 % 10 = d / 10 % 10 from by omega, show (10000 * q + d) % 10 = d % 10 from by omega]
  simp

/-- Zeros in front, up to four digits. -/
def pad4 (d : Nat) : List UInt8 := List.replicate (4 - (decL d).length) 48 ++ decL d

theorem pad4_eq (d : Nat) (hd : d < 10000) : pad4 d = [UInt8.ofNat (48 + d / 1000), UInt8.ofNat (48 + d / 100 % 10), UInt8.ofNat (48 + d / 10 % 10), UInt8.ofNat (48 + d % 10)] := by
  unfold pad4
  by_cases h1 : d < 10
  · rw [decL_small d h1, show d / 1000 = 0 from by omega, show d / 100 % 10 = 0 from by omega, show d / 10 % 10 = 0 from by omega, show d % 10 = d from by omega]
    rfl
  · by_cases h2 : d < 100
    · rw [decL_step d (by omega), decL_small (d / 10) (by omega), show d / 1000 = 0 from by omega, show d / 100 % 10 = 0 from by omega, show d / 10 % 10 = d / 10 from by omega]
      rfl
    · by_cases h3 : d < 1000
      · rw [decL_step d (by omega), decL_step (d / 10) (by omega), decL_small (d / 10 / 10) (by omega), show d / 1000 = 0 from by omega, show d / 100 % 10 = d / 10 / 10 from by omega]
        rfl
      · rw [decL_step d (by omega), decL_step (d / 10) (by omega), decL_step (d / 10 / 10) (by omega), decL_small (d / 10 / 10 / 10) (by omega), show d / 100 % 10 = d / 10 / 10 % 10 from by omega, show d / 1000 = d / 10 / 10 / 10 from by omega]
        rfl

theorem decL_pad (q d : Nat) (hq : 0 < q) (hd : d < 10000) : decL (10000 * q + d) = decL q ++ pad4 d := by
  rw [pad4_eq d hd, decL_step4 q d hq hd]

theorem decL_len4 (d : Nat) (hd : d < 10000) : 1 ≤ (decL d).length ∧ (decL d).length ≤ 4 := by
  have h := congrArg List.length (pad4_eq d hd)
  have h1 := decL_len d (by omega)
  unfold pad4 at h
  simp only [List.length_append, List.length_replicate, List.length_cons, List.length_nil] at h
  have h2 : 1 ≤ (decL d).length := by
    unfold decL
    split
    · simp
    · rw [List.length_map, List.length_reverse, length_digs, ln_pos 10 d (by omega) (by omega)]; omega
  omega

theorem decL_long (k n : Nat) (hk : n < 10000 ^ k) : (decL n).length ≤ 4 * k + 1 := by
  unfold decL
  split
  · simp
  · rw [List.length_map, List.length_reverse, length_digs]
    have : n < 10 ^ (4 * k) := by
      rw [Nat.pow_mul]; exact hk
    have := ln_le_of_lt 10 n (4 * k) (by omega) this
    omega

theorem top_dg (x k : Nat) (hk : ln 10000 x = k + 1) : dg 10000 x k = x / 10000 ^ k := by
  rw [dg_eq 10000 (by omega)]
  apply Nat.mod_eq_of_lt
  have := lt_pow_ln 10000 x (by omega)
  rw [hk, Nat.pow_succ] at this
  exact Nat.div_lt_of_lt_mul this

theorem div_top_pos (x k : Nat) (hk : k < ln 10000 x) : 0 < x / 10000 ^ k :=
  Nat.div_pos (top_le 10000 x k (by omega) hk) (Nat.pow_pos (by omega))

theorem div_next (x k : Nat) : x / 10000 ^ k = 10000 * (x / 10000 ^ (k + 1)) + dg 10000 x k := by
  rw [dg_eq 10000 (by omega), Nat.pow_succ, ← Nat.div_div_eq_div_mul]
  omega

theorem text_join (q d : Nat) (hq : 0 < q) (hd : d < 10000) : (⟨(decL q).toArray⟩ : ByteArray) ++ ((⟨#[48, 48, 48, 48]⟩ : ByteArray).extract (decL d).length 4 ++ ⟨(decL d).toArray⟩) = ⟨(decL (10000 * q + d)).toArray⟩ := by
  rw [decL_pad q d hq hd]
  apply ByteArray.ext
  have hl := decL_len4 d hd
  have e : ((⟨#[48, 48, 48, 48]⟩ : ByteArray).extract (decL d).length 4).data = (List.replicate (4 - (decL d).length) 48).toArray := by
    obtain ⟨h1, h2⟩ := hl
    generalize (decL d).length = L at *
    rcases (show L = 1 ∨ L = 2 ∨ L = 3 ∨ L = 4 from by omega) with rfl | rfl | rfl | rfl <;> rfl
  simp only [ByteArray.data_append, e, pad4]
  simp

set_option maxRecDepth 100000 in
set_option maxHeartbeats 1600000 in
theorem text_any (v : Value) (x : Nat) (w : World) (hv : Nums 3 .i64 10000 w v x) (hlx : ln 10000 x ≤ 1099511627776) :
    Calls Tryd.prog 61 #[v] w fun e w' => e = .returned (.string ⟨(decL x).toArray⟩) ∧ Below w.heap.size w w' := by
  obtain ⟨Aa, ca, rfl, hca, hca', hA⟩ := RowF.open hv
  clear hv
  have HA : Hid (RowA .i64 w Aa (ln 10000 x) (dg 10000 x)) := Lib.hid hA; clear hA
  obtain ⟨la, hla⟩ : ∃ la, la = ln 10000 x := ⟨_, rfl⟩
  rw [← hla] at HA hca hlx ⊢
  by_cases h0 : la = 0
  · have hx : x = 0 := (ln_eq_zero 10000 x (by omega)).1 (by omega)
    subst hx
    subst h0
    clear hla HA hlx
    go_enter Tryd.func61, Tryd.ntmps61
    go_wp2_with fail
    go_ret
    exact ⟨rfl, Below.refl _ _⟩
  · obtain ⟨k0, rfl⟩ : ∃ k0, la = k0 + 1 := ⟨la - 1, by omega⟩
    have hb0 : (((k0 + 1 : Nat) : Int) == 0) = false := by rw [beq_eq_false_iff_ne]; omega
    obtain ⟨ba, oa, rfl, hcA⟩ := HA.out.at_ (show k0 < k0 + 1 by omega)
    have hd0 := dg_lt 10000 x k0 (by omega)
    have htop := top_dg x k0 hla.symm
    have Htop := Lib.hid htop; clear htop
    have Hla := Lib.hid hla; clear hla
    clear h0
    go_enter Tryd.func61, Tryd.ntmps61
    go_wp2_with (go_at_call 95; refine (num_any _ hd0 _).mono ?_; rintro e w1 ⟨rfl, hb1⟩)
    have hs0 := hb1.size
    go_loopw [3, 4] (fun sv i wr => ∃ k : Nat, k ≤ k0 ∧ sv = .string ⟨(decL (x / 10000 ^ k)).toArray⟩ ∧ i = .int .i64 ((k : Int) - 1) ∧ Below w.heap.size w wr) (fun _ i _ => ((intOf i) + 1).toNat)
    case atStart => exact ⟨k0, by omega, by rw [Htop.out], by go_num, hb1⟩
    case round =>
      clear hb1 hs0
      obtain ⟨k, hk, rfl, rfl, hbel⟩ := hrel
      by_cases hk0 : 1 ≤ k
      · obtain ⟨q, rfl⟩ : ∃ q, k = q + 1 := ⟨k - 1, by omega⟩
        obtain ⟨_, _, hAe, hcQ⟩ := (HA.out.below hbel (Nat.le_refl _)).at_ (show q < k0 + 1 by omega)
        obtain ⟨rfl, rfl⟩ : ba = _ ∧ oa = _ := by injection hAe with hAe; injection hAe with h1 h2; exact ⟨h1, h2⟩
        clear hAe
        have hdq := dg_lt 10000 x q (by omega)
        have hnext := div_next x q
        have Hnext := Lib.hid hnext; clear hnext
        have hpos := div_top_pos x (q + 1) (by rw [← Hla.out]; omega)
        obtain ⟨D, hD⟩ : ∃ D, D = dg 10000 x q := ⟨_, rfl⟩
        rw [← hD] at hcQ hdq Hnext
        have HD := Lib.hid hD; clear hD
        obtain ⟨X, hX⟩ : ∃ X, X = x / 10000 ^ (q + 1) := ⟨_, rfl⟩
        rw [← hX] at hpos Hnext ⊢
        have hXl : (decL X).length ≤ 4398046511105 := by
          have h1 := decL_long _ X (lt_pow_ln 10000 X (by omega))
          have h2 : ln 10000 X ≤ ln 10000 x := ln_mono _ _ _ (by omega) (by rw [hX]; exact Nat.div_le_self _ _)
          rw [← Hla.out] at h2
          omega
        have HX := Lib.hid hX; clear hX
        have hl4 := decL_len4 D hdq
        obtain ⟨hl4a, hl4b⟩ := hl4
        go_wp2_with (go_at_call 95; refine (num_any _ hdq _).mono ?_; rintro e w1 ⟨rfl, hb1⟩)
        go_roundw
        case rel => exact ⟨q, by omega, by rw [Hnext.out]; exact congrArg Value.string (text_join X D hpos hdq), by go_num, hbel.trans (hb1.mono hbel.size)⟩
        case measure => simp [intOf]
      · obtain rfl : k = 0 := by omega
        go_wp2_with fail
        go_ret
        exact ⟨by simp, hbel⟩

end Go.Proofs.YtlfogpollmagoaaDoor
