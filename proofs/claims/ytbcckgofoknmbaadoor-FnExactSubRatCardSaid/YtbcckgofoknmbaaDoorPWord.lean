/-
  Several texts in one: TrimW, GcdWs, WordW, RowW, CmpWs.
-/
import Derived.Test.YtbcckgofoknmbaaDoorM1
import Derived.Test.YtbcckgofoknmbaaDoorHold
import Derived.Laws.Bits64b
import Derived.Lib.TrailingZeros
import Derived.Shelf.Spec.TrailingZeros
import Derived.Test.YtbcckgofoknmbaaDoorShelf
import Derived.Laws.Externs
import Derived.Shelf.Spec.BitsCarry
/-
  The program's trimming of leading zero words, and a word as a number.
-/
namespace Go.Proofs.YtbcckgofoknmbaaDoor
open Go.RowKit Num

/-- The base of the program's numbers, 2^64, behind a name. -/
def WB : Nat := 18446744073709551616
theorem WB_val : WB = 18446744073709551616 := rfl
theorem WB_two : 2 ≤ WB := by unfold WB; omega

theorem Tryd.info_u64 : (Tryd.prog.info? 64).map (fun i => (i.zero, i.size, i.bytes)) = some (some (.int .u64 0), 1, 8) := by kernel_rfl

set_option maxHeartbeats 400000 in
theorem trimW_row (b off n cap m : Nat) (d : Nat → Nat) (w : World) (hn : n ≤ cap) (hcap : cap ≤ maxLen) (hm : m ≤ n)
    (hA : ∀ j, j < n → w.cell? ⟨b, off + j, none⟩ = some (.int .u64 (d j : Nat))) (hz : ∀ j, m ≤ j → j < n → d j = 0) (hnz : 0 < m → d (m - 1) ≠ 0) :
    Calls Tryd.prog 53 #[.slice (some ⟨b, off, none⟩) n cap] w fun e w' => e = .returned (.slice (some ⟨b, off, none⟩) m cap) ∧ w = w' := by
  unfold maxLen at hcap
  have HA := Lib.hid hA; clear hA
  have HZ := Lib.hid hz; clear hz
  have HNZ := Lib.hid hnz; clear hnz
  go_enter Tryd.func53, Tryd.ntmps53
  go_wp2_with fail
  go_loop [0] (fun v => ∃ k : Nat, m ≤ k ∧ k ≤ n ∧ v = .slice (some ⟨b, off, none⟩) k cap) (fun v => match v with | .slice _ k _ => k | _ => 0)
  case atStart => exact ⟨n, by omega, by omega, rfl⟩
  case round =>
    obtain ⟨k, hk1, hk2, rfl⟩ := hrel
    by_cases hk0 : 0 < k
    · have h1 : w.cell? ⟨b, off + (k - 1), none⟩ = some (.int .u64 (d (k - 1) : Nat)) := HA.out (k - 1) (by omega)
      by_cases hkm : k = m
      · have h2 := HNZ.out (by omega)
        subst hkm
        have h3 : ((d (k - 1) : Int) == 0) = false := by rw [beq_eq_false_iff_ne]; omega
        go_wp2_with fail
        go_ret
        exact ⟨rfl, rfl⟩
      · have h2 := HZ.out (k - 1) (by omega) (by omega)
        have h3 : ((d (k - 1) : Int) == 0) = true := by rw [beq_iff_eq]; omega
        have H2 := Lib.hid h2; clear h2
        go_wp2_with fail
        go_round
        case rel => exact ⟨k - 1, by omega, by omega, rfl⟩
        case measure => simp; omega
    · obtain rfl : k = 0 := by omega
      obtain rfl : m = 0 := by omega
      go_wp2_with fail
      go_ret
      exact ⟨rfl, rfl⟩

set_option maxHeartbeats 400000 in
theorem trimW_nil (w : World) :
    Calls Tryd.prog 53 #[.slice none 0 0] w fun e w' => e = .returned (.slice none 0 0) ∧ w = w' := by
  go_enter Tryd.func53, Tryd.ntmps53
  go_wp2_with fail
  refine wp_loop_rounds 1 ?_
  rw [rounds_succ]
  go_wp2_with fail
  go_ret
  exact ⟨rfl, rfl⟩

/-- Trimming a row of digits: the result is the number, in the same block. -/
theorem trimW_at (v : Value) (xs : List Nat) (w : World) (hd : Dig WB xs) (h : RowF 64 .u64 w v xs.length fun j => xs.getD j 0) :
    Calls Tryd.prog 53 #[v] w fun e w' => (∃ v', e = .returned v' ∧ Nums 64 .u64 WB w v' (val WB xs) ∧ v'.ownBlock = v.ownBlock) ∧ w = w' := by
  rcases h with ⟨rfl, h0⟩ | ⟨b, off, cap, rfl, h1, h2, h3, h4⟩
  · have hx : xs = [] := List.eq_nil_of_length_eq_zero h0
    subst hx
    exact (trimW_nil w).mono fun e w' ⟨he, hw⟩ => ⟨⟨_, he, .inl ⟨rfl, rfl⟩, rfl⟩, hw⟩
  · obtain ⟨m, hm, hz, hnz⟩ := top_nonzero (fun j => xs.getD j 0) xs.length
    refine (trimW_row b off xs.length cap m _ w h1 h2 hm h4 hz hnz).mono fun e w' ⟨he, hw⟩ => ⟨⟨_, he, ?_, rfl⟩, hw⟩
    exact strip_row WB_two xs hd hm hz hnz (.inr ⟨b, off, cap, rfl, by omega, h2, h3, fun j hj => h4 j (by omega)⟩)

/-- Trimming a row of digits: the result is the number. -/
theorem trimW_any (v : Value) (xs : List Nat) (w : World) (hd : Dig WB xs) (h : RowF 64 .u64 w v xs.length fun j => xs.getD j 0) :
    Calls Tryd.prog 53 #[v] w fun e w' => (∃ v', e = .returned v' ∧ Nums 64 .u64 WB w v' (val WB xs)) ∧ w = w' :=
  (trimW_at v xs w hd h).mono fun _ _ ⟨⟨v', he, hn, _⟩, hw⟩ => ⟨⟨v', he, hn⟩, hw⟩


set_option maxHeartbeats 400000 in
/-- A word as a number. -/
theorem ofWord_any (x : Nat) (hx : x < WB) (w : World) :
    Calls Tryd.prog 59 #[.int .u64 x] w fun e w' => (∃ v, e = .returned v ∧ Nums 64 .u64 WB w' v x) ∧ Below w.heap.size w w' := by
  have hr : RowF 64 .u64 (w.alloc (.cells #[.int .u64 (x : Nat)] 64)) (.slice (some ⟨w.heap.size, 0, none⟩) 1 1) [x].length fun j => [x].getD j 0 :=
    .inr ⟨w.heap.size, 0, 1, rfl, by simp, by unfold maxLen; omega, ⟨_, Box.new w _ _⟩, fun j hj => by
      obtain rfl : j = 0 := by simpa using hj
      exact (Box.new w 64 #[.int .u64 (x : Nat)]).cell 0⟩
  have hd : Dig WB [x] := fun y hy => by
    rcases List.mem_singleton.1 hy with rfl
    exact hx
  have Hr := Lib.hid hr; clear hr
  clear hx
  go_enter Tryd.func59, Tryd.ntmps59
  go_wp2_with (go_at_call 53; refine (trimW_any _ [x] _ hd Hr.out).mono ?_; rintro e w' ⟨⟨v', rfl, hv'⟩, rfl⟩)
  go_ret
  refine ⟨⟨_, rfl, ?_⟩, (Below.refl _ w).alloc (Nat.le_refl _) _⟩
  simpa [val] using hv'

end Go.Proofs.YtbcckgofoknmbaaDoor
/-
  Several texts in one: Tz, GcdW.
-/
/-
  math/bits.TrailingZeros64 at this program's numbers, over the table as its initialiser lays it.
-/
namespace Go.Proofs.YtbcckgofoknmbaaDoor
open Go.RowKit Num

/-- The table of math/bits.TrailingZeros64 stands in its variable. -/
def Tab64 (w : World) : Prop := ∀ j, j < Lib.deBruijn64tab.length → w.cell? ⟨3, j, none⟩ = some (.int .u8 (Lib.deBruijn64tab.getD j 0))

theorem Tab64.below {w w' : World} (h : Tab64 w) (hb : Below w.heap.size w w') : Tab64 w' := fun j hj => by
  have h1 := h j hj
  rw [hb.cell (p := ⟨3, j, none⟩) (World.block_lt_of_cell? w _ h1)]
  exact h1

set_option maxHeartbeats 1000000 in
theorem tz64_core (x k idx : Nat) (w : World) (hx0 : ((x : Int) == 0) = false)
    (key : IntKind.u64.wrap (bits BinOp.and IntKind.u64 (x : Int) (IntKind.u64.wrap (-(x : Int))) * 285870213051353865) / 288230376151711744 = (idx : Int))
    (hi : idx < 64) (hk : k < 64) (hcell : w.cell? ⟨3, idx, none⟩ = some (.int .u8 k)) :
    Calls Tryd.prog 81 #[.int .u64 x] w fun e w' => e = .returned (.int .i64 k) ∧ w = w' := by
  go_enter Tryd.func81, Tryd.ntmps81
  go_wp2_with (simp only [key])
  go_ret
  exact ⟨rfl, rfl⟩

/-- Where x is not 0. -/
theorem tz64 (x : Nat) (hx : x < 18446744073709551616) (h0 : x ≠ 0) (w : World) (hT : Tab64 w) :
    Calls Tryd.prog 81 #[.int .u64 x] w fun e w' => e = .returned (.int .i64 (Lib.ctz 64 x)) ∧ w = w' := by
  obtain ⟨hlow, hk⟩ := Lib.lowest_bit 64 x h0 hx
  obtain ⟨hi, htab⟩ := Lib.deBruijn64_at _ hk
  have hcell := hT _ hi
  rw [htab] at hcell
  exact tz64_core x _ _ w (by simp; omega) (tz64_key x _ hx h0 hlow) hi hk hcell

end Go.Proofs.YtbcckgofoknmbaaDoor
/-
  The program's greatest common divisor of two words.
-/
namespace Go.Proofs.YtbcckgofoknmbaaDoor
open Go.RowKit Num

theorem ctz_spec (x : Nat) (h0 : x ≠ 0) (h : x < 18446744073709551616) : ∃ m, x = 2 ^ Lib.ctz 64 x * (2 * m + 1) ∧ Lib.ctz 64 x < 64 := by
  obtain ⟨m, h1, h2⟩ := Lib.ctzFrom_spec 64 x (by omega) h
  have e : Lib.ctz 64 x = Lib.ctzFrom 64 x := by simp [Lib.ctz, h0]
  rw [e]
  exact ⟨m, h1, h2⟩

theorem coprime_two_pow (k u : Nat) (h : u % 2 = 1) : (2 ^ k).Coprime u := by
  apply Nat.Coprime.pow_left
  show Nat.gcd 2 u = 1
  rw [Nat.gcd_rec, h]
  rfl

theorem gcd_odd (u k m : Nat) (h : u % 2 = 1) : Nat.gcd u (2 ^ k * m) = Nat.gcd u m := Nat.Coprime.gcd_mul_left_cancel_right m (coprime_two_pow k u h)

theorem gcd_two_pow (i j u v : Nat) (hu : u % 2 = 1) (hv : v % 2 = 1) : Nat.gcd (2 ^ i * u) (2 ^ j * v) = 2 ^ min i j * Nat.gcd u v := by
  rcases Nat.le_total i j with h | h
  · rw [Nat.min_eq_left h, show j = i + (j - i) from by omega, Nat.pow_add, Nat.mul_assoc, Nat.gcd_mul_left, gcd_odd u (j - i) v hu]
  · rw [Nat.min_eq_right h, show i = j + (i - j) from by omega, Nat.pow_add, Nat.mul_assoc, Nat.gcd_mul_left, Nat.gcd_comm, gcd_odd v (i - j) u hv, Nat.gcd_comm]

theorem ctz_unique (k l p z : Nat) (h : z = 2 ^ k * (2 * p + 1)) (h0 : z % 2 ^ l = 0) (h1 : z / 2 ^ l % 2 = 1) : k = l := by
  rcases Nat.lt_trichotomy k l with hlt | heq | hgt
  · exfalso
    obtain ⟨c, hc⟩ := Nat.dvd_of_mod_eq_zero h0
    have e : 2 ^ k * (2 * p + 1) = 2 ^ k * (2 * (2 ^ (l - k - 1) * c)) := by
      rw [← h, hc]
      have : (2 : Nat) ^ l = 2 ^ k * (2 * 2 ^ (l - k - 1)) := by rw [← Nat.pow_succ', ← Nat.pow_add]; congr 1; omega
      rw [this, Nat.mul_assoc, Nat.mul_assoc]
    have := Nat.eq_of_mul_eq_mul_left (Nat.pow_pos (by omega)) e
    omega
  · exact heq
  · exfalso
    have e : z / 2 ^ l = 2 * (2 ^ (k - l - 1) * (2 * p + 1)) := by
      rw [h, show (2 : Nat) ^ k = 2 ^ l * (2 * 2 ^ (k - l - 1)) from by rw [← Nat.pow_succ', ← Nat.pow_add]; congr 1; omega, Nat.mul_assoc, Nat.mul_div_cancel_left _ (Nat.pow_pos (by omega)), Nat.mul_assoc]
    rw [e] at h1
    omega

theorem pow_mod_low (i l m : Nat) (h : l ≤ i) : 2 ^ i * (2 * m + 1) % 2 ^ l = 0 := by
  rw [show (2 : Nat) ^ i = 2 ^ l * 2 ^ (i - l) from by rw [← Nat.pow_add]; congr 1; omega, Nat.mul_assoc, Nat.mul_mod_right]

theorem ctz_or (a b : Nat) (ha0 : a ≠ 0) (hb0 : b ≠ 0) (ha : a < 18446744073709551616) (hb : b < 18446744073709551616) : Lib.ctz 64 (a ||| b) = min (Lib.ctz 64 a) (Lib.ctz 64 b) := by
  obtain ⟨m, hm, _⟩ := ctz_spec a ha0 ha
  obtain ⟨n, hn, _⟩ := ctz_spec b hb0 hb
  have hz : a ||| b < 18446744073709551616 := Nat.or_lt_two_pow (n := 64) ha hb
  have hz0 : a ||| b ≠ 0 := by
    intro e
    exact ha0 (Nat.or_eq_zero_iff.1 e).1
  obtain ⟨p, hp, _⟩ := ctz_spec _ hz0 hz
  refine ctz_unique _ _ p _ hp ?_ ?_
  · rw [Nat.or_mod_two_pow, hm, hn, pow_mod_low _ _ _ (by rw [← hm, ← hn]; exact Nat.min_le_left _ _), pow_mod_low _ _ _ (by rw [← hm, ← hn]; exact Nat.min_le_right _ _)]
    rfl
  · rw [Nat.or_div_two_pow, Nat.or_mod_two_eq_one]
    rcases Nat.le_total (Lib.ctz 64 a) (Lib.ctz 64 b) with h | h
    · left
      rw [Nat.min_eq_left h]
      generalize Lib.ctz 64 a = i at *
      rw [hm, Nat.mul_div_cancel_left _ (Nat.pow_pos (by omega))]
      omega
    · right
      rw [Nat.min_eq_right h]
      generalize Lib.ctz 64 b = j at *
      rw [hn, Nat.mul_div_cancel_left _ (Nat.pow_pos (by omega))]
      omega

theorem gcd_step (p q : Nat) : Nat.gcd (min p q) (max p q - min p q) = Nat.gcd p q := by
  rcases Nat.le_total p q with h | h
  · rw [Nat.min_eq_left h, Nat.max_eq_right h, Nat.gcd_sub_self_right h]
  · rw [Nat.min_eq_right h, Nat.max_eq_left h, Nat.gcd_sub_self_right h, Nat.gcd_comm]

set_option maxHeartbeats 1000000 in
theorem gcdW_zero (a b : Nat) (ha : a < 18446744073709551616) (hb : b < 18446744073709551616) (w : World) (h : a = 0 ∨ b = 0) :
    Calls Tryd.prog 60 #[.int .u64 a, .int .u64 b] w fun e w' => e = .returned (.int .u64 (Nat.gcd a b : Nat)) ∧ w = w' := by
  by_cases ha0 : a = 0
  · subst ha0
    have hor : bits BinOp.or IntKind.u64 0 (b : Int) = (b : Int) := by have := bits_or_u64_nat 0 b (by omega) hb; simpa using this
    clear h ha
    go_enter Tryd.func60, Tryd.ntmps60
    go_wp2_with fail
    go_ret
    exact ⟨ret_int (a := (b : Int)) (by simp), rfl⟩
  · obtain rfl : b = 0 := by omega
    have hor : bits BinOp.or IntKind.u64 (a : Int) 0 = (a : Int) := by have := bits_or_u64_nat a 0 ha (by omega); simpa using this
    have ea : ((a : Int) == 0) = false := by simp; omega
    clear h hb ha0
    go_enter Tryd.func60, Tryd.ntmps60
    go_wp2_with fail
    go_ret
    exact ⟨ret_int (a := (a : Int)) (by simp), rfl⟩

set_option maxHeartbeats 1000000 in
theorem gcdW_pos (a b : Nat) (ha : a < 18446744073709551616) (hb : b < 18446744073709551616) (ha0 : a ≠ 0) (hb0 : b ≠ 0) (w : World) (hT : Tab64 w) :
    Calls Tryd.prog 60 #[.int .u64 a, .int .u64 b] w fun e w' => e = .returned (.int .u64 (Nat.gcd a b : Nat)) ∧ w = w' := by
  have ea : ((a : Int) == 0) = false := by simp; omega
  have eb : ((b : Int) == 0) = false := by simp; omega
  obtain ⟨z, hz⟩ : ∃ z, z = a ||| b := ⟨_, rfl⟩
  have hz64 : z < 18446744073709551616 := by rw [hz]; exact Nat.or_lt_two_pow (n := 64) ha hb
  have hz0 : z ≠ 0 := by rw [hz]; exact fun e => ha0 (Nat.or_eq_zero_iff.1 e).1
  have hor : bits BinOp.or IntKind.u64 (a : Int) (b : Int) = (z : Int) := by rw [hz]; exact bits_or_u64_nat a b ha hb
  obtain ⟨m, hm, hi⟩ := ctz_spec a ha0 ha
  obtain ⟨n, hn, hj⟩ := ctz_spec b hb0 hb
  have hmin : Lib.ctz 64 z = min (Lib.ctz 64 a) (Lib.ctz 64 b) := by rw [hz]; exact ctz_or a b ha0 hb0 ha hb
  obtain ⟨i, hie⟩ : ∃ i, i = Lib.ctz 64 a := ⟨_, rfl⟩
  obtain ⟨s, hse⟩ : ∃ s, s = Lib.ctz 64 z := ⟨_, rfl⟩
  have c1 : ∀ W, Tab64 W → Calls Tryd.prog 81 #[.int .u64 z] W fun e w' => e = .returned (.int .i64 s) ∧ W = w' := by rw [hse]; exact fun W => tz64 z hz64 hz0 W
  have c2 : ∀ W, Tab64 W → Calls Tryd.prog 81 #[.int .u64 a] W fun e w' => e = .returned (.int .i64 i) ∧ W = w' := by rw [hie]; exact fun W => tz64 a ha ha0 W
  have C1 := Lib.hid c1; clear c1
  have C2 := Lib.hid c2; clear c2
  rw [← hie] at hm hi hmin
  rw [← hse] at hmin
  have Hm := Lib.hid hm; clear hm
  have Hn := Lib.hid hn; clear hn
  have Hmin := Lib.hid hmin; clear hmin
  have Hz := Lib.hid hz; clear hz
  clear hie hse
  have HT := Lib.hid hT; clear hT
  set_option maxRecDepth 100000 in
  go_enter Tryd.func60, Tryd.ntmps60
  go_wp2_with (go_at_call 81; first | ((with_reducible refine (C1.out _ HT.out).mono ?_); rintro e w' ⟨rfl, rfl⟩) | ((with_reducible refine (C2.out _ HT.out).mono ?_); rintro e w' ⟨rfl, rfl⟩))
  go_loop [0, 1] (fun x y => ∃ p q : Nat, x = .int .u64 p ∧ y = .int .u64 q ∧ p % 2 = 1 ∧ p < 18446744073709551616 ∧ q < 18446744073709551616 ∧ Nat.gcd p q = Nat.gcd (2 * m + 1) b) (fun x y => (intOf x).toNat + (intOf y).toNat)
  case atStart =>
    have e : a / 2 ^ i = 2 * m + 1 := by
      have := Hm.out
      rw [this, Nat.mul_div_cancel_left _ (Nat.pow_pos (by omega))]
    exact ⟨a / 2 ^ i, b, by congr 1, rfl, by rw [e]; omega, Nat.lt_of_le_of_lt (Nat.div_le_self _ _) ha, hb, by rw [e]⟩
  case round =>
    obtain ⟨p, q, rfl, rfl, hp, hp64, hq64, hg⟩ := hrel
    have Hg := Lib.hid hg; clear hg
    by_cases hq0 : q = 0
    · subst hq0
      go_wp2_with fail
      go_ret
      refine ⟨ret_int (a := IntKind.u64.wrap ((p : Int) * 2 ^ min s 64)) ?_, rfl⟩
      have hgp : p = Nat.gcd (2 * m + 1) (2 * n + 1) := by
        have e := Hg.out
        have e2 := Hn.out
        rw [Nat.gcd_zero_right, e2, gcd_odd _ _ _ (by omega)] at e
        exact e
      have hgab : Nat.gcd a b = 2 ^ s * p := by
        have e1 := Hm.out
        have e2 := Hn.out
        have e3 := Hmin.out
        calc Nat.gcd a b = Nat.gcd (2 ^ i * (2 * m + 1)) (2 ^ Lib.ctz 64 b * (2 * n + 1)) := by rw [← e1, ← e2]
          _ = 2 ^ s * p := by rw [gcd_two_pow _ _ _ _ (by omega) (by omega), ← e3, ← hgp]
      have hle : Nat.gcd a b ≤ a := Nat.le_of_dvd (by omega) (Nat.gcd_dvd_left a b)
      have hs : min s 64 = s := by have := Hmin.out; omega
      rw [hs, IntKind.wrap_u64, hgab, Nat.mul_comm]
      rw [hgab, Nat.mul_comm] at hle
      have e : ((p * 2 ^ s : Nat) : Int) = (p : Int) * 2 ^ s := by simp
      rw [← e]
      omega
    · obtain ⟨n', hn', ht⟩ := ctz_spec q hq0 hq64
      have C3 := Lib.hid (tz64 q hq64 hq0 w HT.out)
      obtain ⟨t, hte⟩ : ∃ t, t = Lib.ctz 64 q := ⟨_, rfl⟩
      rw [← hte] at hn' ht C3
      clear hte
      obtain ⟨r, hre⟩ : ∃ r, r = 2 * n' + 1 := ⟨_, rfl⟩
      rw [← hre] at hn'
      have hr : (q : Int) / 2 ^ t = (r : Int) := by
        have : q / 2 ^ t = r := by rw [hn', Nat.mul_div_cancel_left _ (Nat.pow_pos (by omega))]
        rw [← this]; simp
      have hrq : r ≤ q := by rw [hn']; exact Nat.le_mul_of_pos_left _ (Nat.pow_pos (by omega))
      have hr1 : r % 2 = 1 := by omega
      have hr64 : r < 18446744073709551616 := by omega
      have Hn' := Lib.hid hn'; clear hn'
      have Hre := Lib.hid hre; clear hre
      have hqb : ((q : Int) != 0) = true := by rw [bne_iff_ne]; omega
      have hgq : Nat.gcd p q = Nat.gcd p r := by
        have := Hn'.out
        rw [this, gcd_odd p t r hp]
      have Hgq := Lib.hid hgq; clear hgq
      rcases Nat.lt_trichotomy r p with hlt | heq | hgt
      · go_wp2_with (go_at_call 81; (with_reducible refine C3.out.mono ?_); rintro e w' ⟨rfl, rfl⟩)
        go_round
        case rel => exact ⟨r, p - r, by go_num, by go_num, by omega, by omega, by omega, by rw [← Hg.out, Hgq.out, Nat.gcd_sub_self_right (by omega), Nat.gcd_comm]⟩
        case measure => simp only [intOf]; omega
      · subst heq
        go_wp2_with (go_at_call 81; (with_reducible refine C3.out.mono ?_); rintro e w' ⟨rfl, rfl⟩)
        go_round
        case rel => exact ⟨r, 0, by go_num, by go_num, by omega, by omega, by omega, by rw [← Hg.out, Hgq.out, Nat.gcd_self, Nat.gcd_zero_right]⟩
        case measure => simp only [intOf]; omega
      · go_wp2_with (go_at_call 81; (with_reducible refine C3.out.mono ?_); rintro e w' ⟨rfl, rfl⟩)
        go_round
        case rel => exact ⟨p, r - p, by go_num, by go_num, by omega, by omega, by omega, by rw [← Hg.out, Hgq.out, Nat.gcd_sub_self_right (by omega)]⟩
        case measure => simp only [intOf]; omega

/-- The program's greatest common divisor of two words. -/
theorem gcdW_any (a b : Nat) (ha : a < 18446744073709551616) (hb : b < 18446744073709551616) (w : World) (hT : Tab64 w) :
    Calls Tryd.prog 60 #[.int .u64 a, .int .u64 b] w fun e w' => e = .returned (.int .u64 (Nat.gcd a b : Nat)) ∧ w = w' := by
  by_cases h : a = 0 ∨ b = 0
  · exact gcdW_zero a b ha hb w h
  · exact gcdW_pos a b ha hb (by omega) (by omega) w hT

end Go.Proofs.YtbcckgofoknmbaaDoor
/-
  Several texts in one: MulAdd, SubW, PadW, Lz.
-/
/-
  The program's product of two words, plus a third; the library's sum and difference of words with a carry.
-/
namespace Go.Proofs.YtbcckgofoknmbaaDoor
open Go.RowKit Num

theorem Tryd.add64_run (x y c : Nat) (hc : c ≤ 1) (w : World) :
    (callFunc 72 #[.int .u64 x, .int .u64 y, .int .u64 c]).run Tryd.prog w = .ok (.value (.tuple #[.int .u64 ((x + y + c) % WB : Nat), .int .u64 ((x + y + c) / WB : Nat)])) w := by
  rw [run_callFunc_extern Tryd.func72 (by kernel_rfl) (by kernel_rfl) (by kernel_rfl) (e := add64Entry) (by kernel_rfl), run_add64 x y c (by omega) (by omega) (by omega) (by omega)]
  simp only [Result.andThen]
  congr 5 <;> (unfold WB; omega)

theorem Tryd.add64_run0 (x y : Nat) (w : World) :
    (callFunc 72 #[.int .u64 x, .int .u64 y, .int .u64 0]).run Tryd.prog w = .ok (.value (.tuple #[.int .u64 ((x + y) % WB : Nat), .int .u64 ((x + y) / WB : Nat)])) w := Tryd.add64_run x y 0 (by omega) w

set_option maxRecDepth 100000 in
set_option maxHeartbeats 800000 in
theorem mulAdd_any (x y p : Nat) (hx : x < 18446744073709551616) (hy : y < 18446744073709551616) (hp : p < 18446744073709551616) (w : World) :
    Calls Tryd.prog 71 #[.int .u64 x, .int .u64 y, .int .u64 p] w fun e w' => e = .returned (.tuple #[.int .u64 ((x * y + p) % WB : Nat), .int .u64 ((x * y + p) / WB : Nat)]) ∧ w' = w := by
  obtain ⟨hi, hhi⟩ : ∃ hi, hi = x * y / 18446744073709551616 := ⟨_, rfl⟩
  obtain ⟨lo, hlo⟩ : ∃ lo, lo = x * y % 18446744073709551616 := ⟨_, rfl⟩
  obtain ⟨m, hm⟩ : ∃ m, m = x * y := ⟨_, rfl⟩
  obtain ⟨t, ht⟩ : ∃ t, t = (lo + p) / WB := ⟨_, rfl⟩
  obtain ⟨r, hr⟩ : ∃ r, r = (lo + p) % WB := ⟨_, rfl⟩
  have hmx : m ≤ 18446744073709551615 * 18446744073709551615 := by rw [hm]; exact Nat.mul_le_mul (by omega) (by omega)
  have c1 : ∀ W, Calls Tryd.prog 87 #[.int .u64 x, .int .u64 y] W fun e w' => e = .returned (.tuple #[.int .u64 hi, .int .u64 lo]) ∧ w' = W := fun W => by rw [hhi, hlo]; exact Tryd.bits_Mul64 x y hx hy W
  have c2 : ∀ W, (callFunc 72 #[.int .u64 lo, .int .u64 p, .int .u64 0]).run Tryd.prog W = .ok (.value (.tuple #[.int .u64 r, .int .u64 t])) W := fun W => by rw [hr, ht]; exact Tryd.add64_run0 lo p W
  have e1 : (m + p) % WB = r := by rw [← hm] at hlo; unfold WB at *; omega
  have e2 : (m + p) / WB = hi + t := by rw [← hm] at hlo hhi; unfold WB at *; omega
  have e3 : IntKind.u64.wrap ((hi : Int) + (t : Int)) = ((hi + t : Nat) : Int) := by
    rw [← hm] at hlo hhi
    have : hi + t < 18446744073709551616 := by unfold WB at *; omega
    rw [IntWalk.u64_in _ (by omega)]; omega
  rw [← hm, e1, e2]
  have C1 := Lib.hid c1; clear c1
  clear e1 e2 hhi hlo ht hr hmx hm
  go_enter Tryd.func71, Tryd.ntmps71
  go_wp2_with (go_at_call 87; refine (C1.out _).mono ?_; rintro e w' ⟨rfl, rfl⟩)
  exact bodyPost_ret (v := .tuple #[.int .u64 r, .int .u64 ((hi : Int) + t)]) (by simp [results, Tryd.results71, go_sem]) rfl ⟨by rw [show ((hi + t : Nat) : Int) = (hi : Int) + t by omega], rfl⟩

end Go.Proofs.YtbcckgofoknmbaaDoor
/-
  The library's difference of words with a borrow.
-/
namespace Go.Proofs.YtbcckgofoknmbaaDoor
open Go.RowKit Num

theorem Tryd.sub64_run (x y b : Nat) (hb : b ≤ 1) (w : World) :
    (callFunc 77 #[.int .u64 x, .int .u64 y, .int .u64 b]).run Tryd.prog w = .ok (.value (.tuple #[.int .u64 ((x + WB - y - b) % WB : Nat), .int .u64 (if x < y + b then 1 else 0 : Nat)])) w := by
  rw [run_callFunc_extern Tryd.func77 (by kernel_rfl) (by kernel_rfl) (by kernel_rfl) (e := sub64Entry) (by kernel_rfl), run_sub64 x y b hb]
  rfl

end Go.Proofs.YtbcckgofoknmbaaDoor
/-
  The program's padding of a natural number with leading zeros, where none is wanted.
-/
namespace Go.Proofs.YtbcckgofoknmbaaDoor
open Go.RowKit Num

set_option maxHeartbeats 400000 in
theorem padW_same (A1 : Option Addr) (n cap : Nat) (w : World) :
    Calls Tryd.prog 55 #[.slice A1 n cap, .int .i64 (n : Nat)] w fun e w' => e = .returned (.slice A1 n cap) ∧ w' = w := by
  go_enter Tryd.func55, Tryd.ntmps55
  go_wp2_with fail
  go_ret
  exact ⟨rfl, rfl⟩

end Go.Proofs.YtbcckgofoknmbaaDoor
/-
  The library's count of leading zero bits of a word, and what a shift by it makes of the word.
-/
namespace Go.Proofs.YtbcckgofoknmbaaDoor
open Go.RowKit Num

theorem bitLen_spec (x : Nat) : x ≠ 0 → x < 2 ^ 64 → x < 2 ^ Lib.bitLen x ∧ 2 ^ (Lib.bitLen x - 1) ≤ x ∧ 1 ≤ Lib.bitLen x := by
  induction x using Nat.strongRecOn with
  | ind x ih =>
    intro h0 h
    rw [Lib.bitLen_half x h0 h]
    by_cases h1 : x / 2 = 0
    · have : x = 1 := by omega
      subst this
      decide
    · obtain ⟨k1, k2, k3⟩ := ih (x / 2) (by omega) h1 (by omega)
      generalize Lib.bitLen (x / 2) = n at *
      refine ⟨?_, ?_, by omega⟩
      · rw [Nat.add_comm, Nat.pow_succ]; omega
      · obtain ⟨m, rfl⟩ : ∃ m, n = m + 1 := ⟨n - 1, by omega⟩
        rw [show 1 + (m + 1) - 1 = m + 1 from by omega, Nat.pow_succ]
        simp at k2
        omega

/-- How many zero bits lead. -/
def lz (x : Nat) : Nat := 64 - Lib.bitLen x

theorem lz_spec (x : Nat) (h0 : x ≠ 0) (h : x < 18446744073709551616) : lz x < 64 ∧ x * 2 ^ lz x < 18446744073709551616 ∧ 9223372036854775808 ≤ x * 2 ^ lz x := by
  obtain ⟨h1, h2, h3⟩ := bitLen_spec x h0 h
  unfold lz
  have h4 : Lib.bitLen x ≤ 64 := by
    apply Nat.le_of_not_lt
    intro hlt
    have : 2 ^ 64 ≤ 2 ^ (Lib.bitLen x - 1) := Nat.pow_le_pow_right (by omega) (by omega)
    omega
  generalize Lib.bitLen x = n at *
  refine ⟨by omega, ?_, ?_⟩
  · have e : (2 : Nat) ^ n * 2 ^ (64 - n) = 18446744073709551616 := by rw [← Nat.pow_add, show n + (64 - n) = 64 from by omega]
    rw [← e]
    exact Nat.mul_lt_mul_of_pos_right h1 (Nat.pow_pos (by omega))
  · have e : (2 : Nat) ^ (n - 1) * 2 ^ (64 - n) = 9223372036854775808 := by rw [← Nat.pow_add, show n - 1 + (64 - n) = 63 from by omega]
    rw [← e]
    exact Nat.mul_le_mul_right _ h2

set_option maxHeartbeats 400000 in
theorem lz64 (x : Nat) (h : x < 18446744073709551616) (w : World) :
    Calls Tryd.prog 76 #[.int .u64 x] w fun e w' => e = .returned (.int .i64 (lz x : Nat)) ∧ w = w' := by
  have hb : Lib.bitLen x ≤ 64 := by
    by_cases h0 : x = 0
    · subst h0; decide
    · obtain ⟨h1, h2, h3⟩ := bitLen_spec x h0 h
      apply Nat.le_of_not_lt
      intro hlt
      have : 2 ^ 64 ≤ 2 ^ (Lib.bitLen x - 1) := Nat.pow_le_pow_right (by omega) (by omega)
      omega
  obtain ⟨n, hn⟩ : ∃ n, n = Lib.bitLen x := ⟨_, rfl⟩
  have hl : ((lz x : Nat) : Int) = 64 - (n : Int) := by unfold lz; omega
  rw [hl]
  rw [← hn] at hb
  have c1 : ∀ W, Calls Tryd.prog 93 #[.int .u64 x] W fun e w' => e = .returned (.int .i64 (n : Nat)) ∧ W = w' := fun W => (Tryd.bits_Len64 (x : Int) W (by omega) (by omega)).mono fun e w' ⟨he, hw⟩ => ⟨by rw [he, hn]; rfl, hw.symm⟩
  have C1 := Lib.hid c1; clear c1 hn hl
  go_enter Tryd.func76, Tryd.ntmps76
  go_wp2_with (go_at_call 93; refine (C1.out _).mono ?_; rintro e w' ⟨rfl, rfl⟩)
  go_ret
  exact ⟨rfl, rfl⟩

end Go.Proofs.YtbcckgofoknmbaaDoor
/-
  Rows of words that are written in place: what a block's cells read as from an offset on, and that a call has written to nothing but a stretch of one block. Facts over the library alone; no function of the program is walked here.
-/
namespace Go.Proofs.YtbcckgofoknmbaaDoor
open Go.RowKit Num

/-- Block g of the world w, of element type t, none of it frozen, holds the words xs from cell off on. -/
def RowW (t : TypeId) (w : World) (g off : Nat) (xs : List Nat) : Prop :=
  ∃ cs : Array Value, Box w g t cs ∧ ∀ j, j < xs.length → cs[off + j]? = some (.int .u64 (xs.getD j 0 : Nat))

/-- From w to w' nothing has turned but the cells lo .. hi-1 of block g; no block has come or gone. -/
structure Wrote (g lo hi : Nat) (w w' : World) : Prop where
  os : w'.os = w.os
  tape : w'.tape = w.tape
  output : w'.output = w.output
  size : w'.heap.size = w.heap.size
  block : ∀ k, k ≠ g → w'.heap[k]? = w.heap[k]?
  box : ∀ t cs, Box w g t cs → ∃ cs', Box w' g t cs' ∧ cs'.size = cs.size ∧ ∀ i, (i < lo ∨ hi ≤ i) → cs'[i]? = cs[i]?

section
variable {t : TypeId} {w w' w'' : World} {g off lo hi : Nat} {xs : List Nat}

theorem Wrote.refl (g lo hi : Nat) (w : World) : Wrote g lo hi w w := ⟨rfl, rfl, rfl, rfl, fun _ _ => rfl, fun _ cs h => ⟨cs, h, rfl, fun _ _ => rfl⟩⟩
theorem Wrote.trans (h : Wrote g lo hi w w') (k : Wrote g lo hi w' w'') : Wrote g lo hi w w'' :=
  ⟨k.os.trans h.os, k.tape.trans h.tape, k.output.trans h.output, k.size.trans h.size, fun i hi => (k.block i hi).trans (h.block i hi), fun t cs hb => by
    obtain ⟨c1, h1, h2, h3⟩ := h.box t cs hb
    obtain ⟨c2, k1, k2, k3⟩ := k.box t c1 h1
    exact ⟨c2, k1, k2.trans h2, fun i hi => (k3 i hi).trans (h3 i hi)⟩⟩
theorem Wrote.wide {lo' hi' : Nat} (h : Wrote g lo hi w w') (h1 : lo' ≤ lo) (h2 : hi ≤ hi') : Wrote g lo' hi' w w' :=
  ⟨h.os, h.tape, h.output, h.size, h.block, fun t cs hb => by
    obtain ⟨c1, k1, k2, k3⟩ := h.box t cs hb
    exact ⟨c1, k1, k2, fun i hi => k3 i (by omega)⟩⟩
theorem Wrote.drew (h : Wrote g lo hi w w') : Wrote g lo hi w w'.drew := ⟨h.os, h.tape, h.output, h.size, h.block, h.box⟩
theorem Wrote.drewN (n : Nat) (h : Wrote g lo hi w w') : Wrote g lo hi w (w'.drewN n) := ⟨h.os, h.tape, h.output, h.size, h.block, h.box⟩
theorem Wrote.setCell (h : Wrote g lo hi w w') {i : Nat} (h1 : lo ≤ i) (h2 : i < hi) (u : Value) : Wrote g lo hi w (w'.setCell ⟨g, i, none⟩ u) :=
  h.trans ⟨rfl, rfl, rfl, by simp [World.setCell], fun k hk => Below.heap_setCell _ _ _ _ hk, fun t cs hb => ⟨_, hb.set i u, by simp, fun j hj => by
    rw [Array.getElem?_setIfInBounds, if_neg (by omega)]⟩⟩
theorem Wrote.below {B : Nat} (h : Wrote g lo hi w w') (hB : B ≤ g) : Below B w w' := ⟨h.os, h.tape, h.output, Nat.le_of_eq h.size.symm, fun k hk => h.block k (by omega)⟩
theorem Wrote.cell (h : Wrote g lo hi w w') {k i : Nat} (hk : k ≠ g) : w'.cell? ⟨k, i, none⟩ = w.cell? ⟨k, i, none⟩ := World.cell?_of_block (w := w) (h.block k hk)

theorem RowW.cell (h : RowW t w g off xs) {j : Nat} (hj : j < xs.length) : w.cell? ⟨g, off + j, none⟩ = some (.int .u64 (xs.getD j 0 : Nat)) := by
  obtain ⟨cs, hb, hc⟩ := h
  rw [hb.cell, hc j hj]
theorem RowW.free (h : RowW t w g off xs) (i : Nat) : w.frozen? ⟨g, i, none⟩ = false := by
  obtain ⟨cs, hb, _⟩ := h
  exact hb.free i
theorem RowW.lt (h : RowW t w g off xs) : g < w.heap.size := by
  obtain ⟨cs, hb, _⟩ := h
  exact hb.lt
theorem RowW.drew (h : RowW t w g off xs) : RowW t w.drew g off xs := h
theorem RowW.drewN (n : Nat) (h : RowW t w g off xs) : RowW t (w.drewN n) g off xs := h
theorem RowW.set (h : RowW t w g off xs) (j : Nat) (hj : j < xs.length) (y : Nat) : RowW t (w.setCell ⟨g, off + j, none⟩ (.int .u64 (y : Nat))) g off (xs.set j y) := by
  obtain ⟨cs, hb, hc⟩ := h
  refine ⟨_, hb.set (off + j) _, fun i hi => ?_⟩
  rw [List.length_set] at hi
  have hl : off + j < cs.size := by
    have := hc j hj
    exact (Array.getElem?_eq_some_iff.1 this).1
  by_cases hij : i = j
  · subst hij
    rw [Array.getElem?_setIfInBounds, if_pos rfl, if_pos hl]
    simp [List.getD, hj]
  · rw [Array.getElem?_setIfInBounds, if_neg (by omega), hc i hi]
    simp [List.getD, show ¬ j = i from fun e => hij e.symm]
theorem RowW.wrote {g' : Nat} (h : RowW t w g off xs) (hw : Wrote g' lo hi w w') (hne : g ≠ g') : RowW t w' g off xs := by
  obtain ⟨cs, hb, hc⟩ := h
  exact ⟨cs, (hw.block g hne).trans hb, hc⟩
theorem RowW.below {B : Nat} (h : RowW t w g off xs) (hb : Below B w w') (hg : g < B) : RowW t w' g off xs := by
  obtain ⟨cs, hx, hc⟩ := h
  exact ⟨cs, hx.below hb hg, hc⟩
theorem RowW.part (h : RowW t w g off xs) (i n : Nat) (hn : i + n ≤ xs.length) : RowW t w g (off + i) ((xs.drop i).take n) := by
  obtain ⟨cs, hb, hc⟩ := h
  refine ⟨cs, hb, fun j hj => ?_⟩
  have hj' : j < n := by simp at hj; omega
  rw [Nat.add_assoc, hc (i + j) (by omega)]
  simp [List.getD, hj']
/-- A stretch of the row written anew. -/
theorem RowW.patch (h : RowW t w g off xs) {i : Nat} {ys : List Nat} (hn : i + ys.length ≤ xs.length) (hw : Wrote g (off + i) (off + i + ys.length) w w') (hy : RowW t w' g (off + i) ys) : RowW t w' g off (xs.take i ++ ys ++ xs.drop (i + ys.length)) := by
  obtain ⟨cs, hb, hc⟩ := h
  obtain ⟨cs', hb', hs, hk⟩ := hw.box t cs hb
  obtain ⟨cy, hby, hcy⟩ := hy
  obtain rfl : cs' = cy := by
    unfold Box at hb' hby
    rw [hb'] at hby
    injection hby with hby
    injection hby
  refine ⟨cs', hb', fun j hj => ?_⟩
  have hj' : j < xs.length := by simp at hj; omega
  rcases Nat.lt_or_ge j i with h1 | h1
  · rw [hk _ (by omega), hc j hj']
    congr 3
    rw [List.getD_eq_getElem?_getD, List.getD_eq_getElem?_getD, List.append_assoc, List.getElem?_append_left (by simp; omega), List.getElem?_take, if_pos h1]
  · rcases Nat.lt_or_ge j (i + ys.length) with h2 | h2
    · have := hcy (j - i) (by omega)
      rw [show off + i + (j - i) = off + j from by omega] at this
      rw [this]
      congr 3
      rw [List.getD_eq_getElem?_getD, List.getD_eq_getElem?_getD, List.append_assoc, List.getElem?_append_right (by simp; omega), List.getElem?_append_left (by simp; omega)]
      simp [show min i xs.length = i from by omega]
    · rw [hk _ (by omega), hc j hj']
      congr 3
      rw [List.getD_eq_getElem?_getD, List.getD_eq_getElem?_getD, List.append_assoc, List.getElem?_append_right (by simp; omega), List.getElem?_append_right (by simp; omega)]
      simp [show min i xs.length = i from by omega]
      congr 2
      omega

theorem RowW.rowF (h : RowW t w g off xs) {cap : Nat} (h1 : xs.length ≤ cap) (h2 : cap ≤ maxLen) : RowF t .u64 w (.slice (some ⟨g, off, none⟩) xs.length cap) xs.length fun j => xs.getD j 0 := by
  obtain ⟨cs, hb, hc⟩ := h
  exact .inr ⟨g, off, cap, rfl, h1, h2, ⟨cs, hb⟩, fun j hj => by rw [hb.cell, hc j hj]⟩

theorem RowF.rowW {n cap : Nat} {d : Nat → Nat} (h : RowF t .u64 w (.slice (some ⟨g, off, none⟩) n cap) n d) (hd : ∀ j, j < n → d j = xs.getD j 0) (hl : xs.length = n) : RowW t w g off xs := by
  rcases h with ⟨h, _⟩ | ⟨b, o, c, h0, h1, h2, ⟨cs, h3⟩, h4⟩
  · cases h
  · injection h0 with h0 _ h5
    injection h0 with h0
    injection h0 with h6 h7
    subst h6 h7 h5
    refine ⟨cs, h3, fun j hj => ?_⟩
    rw [← Box.cell (w := w) (t := t) h3, h4 j (by omega), hd j (by omega)]

theorem RowW.far (h : RowW t w g off xs) {p : Addr} (hp : g ≠ p.block) (u : Value) : RowW t (w.setCell p u) g off xs := by
  obtain ⟨cs, hb, hc⟩ := h
  exact ⟨cs, (Below.heap_setCell w p u g hp).trans hb, hc⟩

/-- A number in another block reads on. -/
theorem RowF.wrote {t' : TypeId} {k : IntKind} {v : Value} {n : Nat} {d : Nat → Nat} (h : RowF t' k w v n d) (hw : Wrote g lo hi w w') (hne : v.ownBlock ≠ some g) : RowF t' k w' v n d := by
  rcases h with h | ⟨b, off, cap, rfl, h1, h2, ⟨cs, h3⟩, h4⟩
  · exact .inl h
  · have hb : b ≠ g := fun e => hne (by rw [e]; rfl)
    exact .inr ⟨b, off, cap, rfl, h1, h2, ⟨cs, (hw.block b hb).trans h3⟩, fun j hj => by rw [hw.cell hb]; exact h4 j hj⟩
theorem Nums.wrote {t' : TypeId} {k : IntKind} {b x : Nat} {v : Value} (h : Nums t' k b w v x) (hw : Wrote g lo hi w w') (hne : v.ownBlock ≠ some g) : Nums t' k b w' v x := RowF.wrote h hw hne

/-- A number that is not 0 lies in some block. -/
theorem Nums.row {b x : Nat} {v : Value} (h : Nums t .u64 b w v x) (hp : 0 < ln b x) : ∃ g off cap, v = .slice (some ⟨g, off, none⟩) (ln b x) cap ∧ ln b x ≤ cap ∧ cap ≤ maxLen ∧ RowW t w g off (digs b x) := by
  rcases h with ⟨_, h0⟩ | ⟨g, off, cap, rfl, h1, h2, ⟨cs, h3⟩, h4⟩
  · omega
  · exact ⟨g, off, cap, rfl, h1, h2, cs, h3, fun j hj => by rw [← Box.cell (w := w) (t := t) h3]; exact h4 j hj⟩
theorem RowF.get {t' : TypeId} {k : IntKind} {A : Option Addr} {n c : Nat} {d : Nat → Nat} (h : RowF t' k w (.slice A n c) n d) {j : Nat} (hj : j < n) : ∃ b off, A = some ⟨b, off, none⟩ ∧ w.cell? ⟨b, off + j, none⟩ = some (.int k (d j : Nat)) := by
  rcases h with ⟨_, h0⟩ | ⟨b, off, cap, h0, h1, h2, h3, h4⟩
  · omega
  · injection h0 with h0
    exact ⟨b, off, h0, h4 j hj⟩
theorem Nums.get {t' : TypeId} {k : IntKind} {A : Option Addr} {b x n c : Nat} (h : Nums t' k b w (.slice A n c) x) (hn : n = ln b x) {j : Nat} (hj : j < n) : ∃ g off, A = some ⟨g, off, none⟩ ∧ w.cell? ⟨g, off + j, none⟩ = some (.int k (dg b x j : Nat)) := by
  subst hn
  exact RowF.get h hj
end

end Go.Proofs.YtbcckgofoknmbaaDoor
/-
  Several texts in one: CmpW, IsOneW.
-/
/-
  The program's comparison of two natural numbers in words.
-/
namespace Go.Proofs.YtbcckgofoknmbaaDoor
open Go.RowKit Num

set_option maxHeartbeats 400000 in
theorem cmpW_ne (aa ab : Option Addr) (la ca lb cb : Nat) (w : World) (hne : (la : Int) < lb ∨ (lb : Int) < la) :
    Calls Tryd.prog 54 #[.slice aa la ca, .slice ab lb cb] w fun e w' => e = .returned (.int .i64 (sgn ((la : Int) - lb))) ∧ ∃ nq, w' = w.drewN nq := by
  by_cases hl : la < lb
  · have hs : sgn ((la : Int) - lb) = -1 := by rw [sgn, if_pos (by omega)]
    rw [hs]
    go_enter Tryd.func54, Tryd.ntmps54
    go_wp2_with fail
    go_ret
    exact ⟨rfl, 0, rfl⟩
  · have hs : sgn ((la : Int) - lb) = 1 := by rw [sgn, if_neg (by omega), if_pos (by omega)]
    rw [hs]
    go_enter Tryd.func54, Tryd.ntmps54
    go_wp2_with fail
    go_ret
    exact ⟨rfl, 0, rfl⟩

set_option maxHeartbeats 400000 in
theorem cmpW_eq (ba oa ca bb ob cb n : Nat) (d e : Nat → Nat) (w : World) (hn : n ≤ maxLen)
    (hA : ∀ j, j < n → w.cell? ⟨ba, oa + j, none⟩ = some (.int .u64 (d j : Nat))) (hB : ∀ j, j < n → w.cell? ⟨bb, ob + j, none⟩ = some (.int .u64 (e j : Nat)))
    (m : Nat) (hm : m ≤ n) (heq : ∀ j, m ≤ j → j < n → d j = e j) (hmne : 0 < m → d (m - 1) ≠ e (m - 1)) :
    Calls Tryd.prog 54 #[.slice (some ⟨ba, oa, none⟩) n ca, .slice (some ⟨bb, ob, none⟩) n cb] w fun e' w' => e' = .returned (.int .i64 (if m = 0 then 0 else sgn ((d (m - 1) : Int) - e (m - 1)))) ∧ ∃ nq, w' = w.drewN nq := by
  unfold maxLen at hn
  have Heq := Lib.hid heq; clear heq
  have Hmne := Lib.hid hmne; clear hmne
  have HA := Lib.hid hA; clear hA
  have HB := Lib.hid hB; clear hB
  go_enter Tryd.func54, Tryd.ntmps54
  go_wp2_with fail
  go_loopw [5] (fun i wr => ∃ k nq : Nat, m ≤ k ∧ k ≤ n ∧ i = .int .i64 ((k : Int) - 1) ∧ wr = w.drewN nq) (fun i _ => ((intOf i) + 1).toNat)
  case atStart => exact ⟨n, 0, by omega, by omega, rfl, rfl⟩
  case round =>
    obtain ⟨k, n0, hk1, hk2, rfl, hwr⟩ := hrel
    have Hwr := Lib.hid hwr; clear hwr
    by_cases hk0 : 1 ≤ k
    · have h1 : wr.cell? ⟨ba, oa + (k - 1), none⟩ = some (.int .u64 (d (k - 1) : Nat)) := by rw [Hwr.out]; exact HA.out (k - 1) (by omega)
      have h2 : wr.cell? ⟨bb, ob + (k - 1), none⟩ = some (.int .u64 (e (k - 1) : Nat)) := by rw [Hwr.out]; exact HB.out (k - 1) (by omega)
      by_cases hkm : k = m
      · have hne := Hmne.out (by omega)
        subst hkm
        have hnb : ((d (k - 1) : Int) != (e (k - 1) : Int)) = true := by rw [bne_iff_ne]; omega
        have hk00 : ¬ k = 0 := by omega
        by_cases hlt : d (k - 1) < e (k - 1)
        · have hs : sgn ((d (k - 1) : Int) - e (k - 1)) = -1 := by rw [sgn, if_pos (by omega)]
          have hdl : decide ((d (k - 1) : Int) < (e (k - 1) : Int)) = true := by rw [decide_eq_true_iff]; omega
          go_wp2_with fail
          go_quiet (fail)
          go_wp2_with fail
          go_quiet (fail)
          go_wp2_with fail
          go_ret
          exact ⟨rfl, _, by rw [Hwr.out]; simp only [World.drewN_drewN]; rfl⟩
        · have hs : sgn ((d (k - 1) : Int) - e (k - 1)) = 1 := by rw [sgn, if_neg (by omega), if_pos (by omega)]
          have hdl : decide ((d (k - 1) : Int) < (e (k - 1) : Int)) = false := by rw [decide_eq_false_iff_not]; omega
          go_wp2_with fail
          go_quiet (fail)
          go_wp2_with fail
          go_quiet (fail)
          go_wp2_with fail
          go_ret
          exact ⟨rfl, _, by rw [Hwr.out]; simp only [World.drewN_drewN]; rfl⟩
      · have hq := Heq.out (k - 1) (by omega) (by omega)
        have hnb : ((d (k - 1) : Int) != (e (k - 1) : Int)) = false := by rw [hq]; simp
        have Hq := Lib.hid hq; clear hq
        go_wp2_with fail
        go_quiet (fail)
        go_wp2_with fail
        go_roundw
        case rel => exact ⟨k - 1, _, by omega, by omega, by go_num, by rw [Hwr.out, World.drewN_drewN]⟩
        case measure => simp [intOf]; omega
    · have : k = 0 := by omega
      subst this
      obtain rfl : m = 0 := by omega
      go_wp2_with fail
      go_ret
      exact ⟨rfl, _, Hwr.out⟩

set_option maxHeartbeats 400000 in
theorem cmpW_empty (aa ab : Option Addr) (ca cb : Nat) (w : World) :
    Calls Tryd.prog 54 #[.slice aa 0 ca, .slice ab 0 cb] w fun e' w' => e' = .returned (.int .i64 0) ∧ ∃ nq, w' = w.drewN nq := by
  go_enter Tryd.func54, Tryd.ntmps54
  go_wp2_with fail
  refine wp_loop_rounds 1 ?_
  rw [rounds_succ]
  go_wp2_with fail
  go_ret
  exact ⟨rfl, 0, rfl⟩

/-- The program's comparison of two numbers. -/
theorem cmpW_any (va vb : Value) (x y : Nat) (w : World) (ha : Nums 64 .u64 WB w va x) (hb : Nums 64 .u64 WB w vb y) :
    Calls Tryd.prog 54 #[va, vb] w fun e w' => e = .returned (.int .i64 (cmpI x y)) ∧ ∃ nq, w' = w.drewN nq := by
  obtain ⟨aa, ca, rfl, hca, ha'⟩ : ∃ aa ca, va = .slice aa (ln WB x) ca ∧ ln WB x ≤ maxLen ∧ (0 < ln WB x → ∃ b off, aa = some ⟨b, off, none⟩ ∧ ∀ j, j < ln WB x → w.cell? ⟨b, off + j, none⟩ = some (.int .u64 ((digs WB x).getD j 0 : Nat))) := by
    rcases ha with ⟨rfl, h0⟩ | ⟨b, off, cap, rfl, h1, h2, h3, h4⟩
    · exact ⟨none, 0, by rw [h0], by rw [h0]; exact Nat.zero_le _, fun h => by omega⟩
    · exact ⟨_, _, rfl, by omega, fun _ => ⟨b, off, rfl, h4⟩⟩
  obtain ⟨ab, cb, rfl, hcb, hb'⟩ : ∃ aa ca, vb = .slice aa (ln WB y) ca ∧ ln WB y ≤ maxLen ∧ (0 < ln WB y → ∃ b off, aa = some ⟨b, off, none⟩ ∧ ∀ j, j < ln WB y → w.cell? ⟨b, off + j, none⟩ = some (.int .u64 ((digs WB y).getD j 0 : Nat))) := by
    rcases hb with ⟨rfl, h0⟩ | ⟨b, off, cap, rfl, h1, h2, h3, h4⟩
    · exact ⟨none, 0, by rw [h0], by rw [h0]; exact Nat.zero_le _, fun h => by omega⟩
    · exact ⟨_, _, rfl, by omega, fun _ => ⟨b, off, rfl, h4⟩⟩
  have h2 := WB_two
  by_cases hl : ln WB x = ln WB y
  · by_cases h0 : ln WB x = 0
    · have hx := (ln_eq_zero WB x h2).1 h0
      have hy := (ln_eq_zero WB y h2).1 (by omega)
      subst hx; subst hy
      exact cmpW_empty _ _ _ _ _
    · obtain ⟨ba, oa, rfl, hA⟩ := ha' (by omega)
      obtain ⟨bb, ob, rfl, hB⟩ := hb' (by omega)
      obtain ⟨m, h1, h3, h4⟩ := top_diff (fun j => (digs WB x).getD j 0) (fun j => (digs WB y).getD j 0) (ln WB x)
      rw [← hl] at hB ⊢
      refine (cmpW_eq ba oa ca bb ob cb (ln WB x) _ _ w hca hA hB m h1 h3 h4).mono fun e w' ⟨he, hw⟩ => ⟨?_, hw⟩
      rw [he]
      apply ret_int
      by_cases hm : m = 0
      · subst hm
        have : x = y := digs_inj WB x y h2 hl fun j hj => h3 j (Nat.zero_le _) hj
        subst this
        simp [cmpI]
      · rw [if_neg hm]
        have h4' := h4 (by omega)
        rcases Nat.lt_or_gt_of_ne h4' with hlt | hgt
        · have hxy := top_lt WB x y (m - 1) h2 hl (by omega) (fun j hj hj' => h3 j (by omega) hj') hlt
          rw [cmpI, if_pos hxy, sgn, if_pos (by omega)]
        · have hxy := top_lt WB y x (m - 1) h2 hl.symm (by omega) (fun j hj hj' => (h3 j (by omega) (by omega)).symm) hgt
          rw [cmpI, if_neg (by omega), if_pos hxy, sgn, if_neg (by omega), if_pos (by omega)]
  · refine (cmpW_ne aa ab _ ca _ cb w (by omega)).mono fun e w' ⟨he, hw⟩ => ⟨?_, hw⟩
    rw [he]
    apply ret_int
    rcases Nat.lt_or_gt_of_ne hl with hlt | hgt
    · have := lt_of_ln_lt WB x y h2 hlt
      rw [cmpI, if_pos this, sgn, if_pos (by omega)]
    · have := lt_of_ln_lt WB y x h2 hgt
      rw [cmpI, if_neg (by omega), if_pos this, sgn, if_neg (by omega), if_pos (by omega)]

end Go.Proofs.YtbcckgofoknmbaaDoor
/-
  The program's test whether a natural number is 1.
-/
namespace Go.Proofs.YtbcckgofoknmbaaDoor
open Go.RowKit Num

theorem ln_one_iff (x : Nat) : (ln WB x = 1 ∧ (digs WB x).getD 0 0 = 1) ↔ x = 1 := by
  have h2 := WB_two
  constructor
  · rintro ⟨h1, h3⟩
    have hl : (digs WB x).length = 1 := h1
    have hv := val_digs WB h2 x
    match hd : digs WB x, hl with
    | [a], _ =>
      rw [hd] at hv h3
      simp at h3
      subst h3
      rw [← hv]
      simp [val]
  · rintro rfl
    have : digs WB 1 = [1] := digs_small WB 1 h2 (by omega) (by unfold WB; omega)
    exact ⟨by rw [← length_digs, this]; rfl, by rw [this]; rfl⟩

set_option maxHeartbeats 400000 in
theorem isOneW_any (v : Value) (x : Nat) (w : World) (hv : Nums 64 .u64 WB w v x) :
    Calls Tryd.prog 39 #[v] w fun e w' => e = .returned (.bool (decide (x = 1))) ∧ ∃ nq, w' = w.drewN nq := by
  obtain ⟨A1, cap, rfl, hc, hm, hrow⟩ := RowF.open hv
  by_cases h1 : ln WB x = 1
  · obtain ⟨b, off, rfl, _, hcell⟩ := hrow (by omega)
    have h0 : w.cell? ⟨b, off, none⟩ = some (.int .u64 ((digs WB x).getD 0 0 : Nat)) := hcell 0 (by omega)
    rw [h1]
    by_cases hd : (digs WB x).getD 0 0 = 1
    · have hx : decide (x = 1) = true := by rw [decide_eq_true_iff]; exact (ln_one_iff x).1 ⟨h1, hd⟩
      rw [hx]
      rw [hd] at h0
      clear hd h1 hcell hrow hv hx
      go_enter Tryd.func39, Tryd.ntmps39
      go_wp2_with fail
      go_ret
      exact ⟨rfl, 0, rfl⟩
    · have hx : decide (x = 1) = false := by rw [decide_eq_false_iff_not]; intro e; exact hd ((ln_one_iff x).2 e).2
      rw [hx]
      obtain ⟨d, hd'⟩ : ∃ d, d = (digs WB x).getD 0 0 := ⟨_, rfl⟩
      rw [← hd'] at h0 hd
      have hb : ((d : Int) == 1) = false := by rw [beq_eq_false_iff_ne]; omega
      clear h1 hcell hrow hv hx hd'
      go_enter Tryd.func39, Tryd.ntmps39
      go_wp2_with fail
      go_ret
      exact ⟨rfl, 0, rfl⟩
  · have hx : decide (x = 1) = false := by rw [decide_eq_false_iff_not]; intro e; exact h1 ((ln_one_iff x).2 e).1
    rw [hx]
    obtain ⟨n, hn⟩ : ∃ n, n = ln WB x := ⟨_, rfl⟩
    rw [← hn] at h1 ⊢
    have hb : ((n : Int) == 1) = false := by rw [beq_eq_false_iff_ne]; omega
    clear hrow hv hx hn
    go_enter Tryd.func39, Tryd.ntmps39
    go_wp2_with fail
    go_ret
    exact ⟨rfl, 0, rfl⟩

end Go.Proofs.YtbcckgofoknmbaaDoor
