/-
  Several texts in one: Shl, Shr.
-/
import Derived.Test.YtdjldhkmcmbiiaaDoorDivWord
/-
  The program's shifts of a number by less than a word.
-/
namespace Go.Proofs.YtdjldhkmcmbiiaaDoor
open Go.RowKit Num

theorem getD_put_ne (xs : List Nat) (k j d : Nat) (h : k ≠ j) : (xs.set k d).getD j 0 = xs.getD j 0 := by
  rw [List.getD_eq_getElem?_getD, List.getD_eq_getElem?_getD, List.getElem?_set_ne h]

theorem rep_getD (n j : Nat) : (List.replicate n 0).getD j 0 = 0 := by
  rw [List.getD_eq_getElem?_getD, List.getElem?_replicate]
  split <;> rfl

theorem shl_put {b : Nat} {xs : List Nat} {k d c c' X x t lo : Nat} (hk : k < xs.length) (h0 : xs.getD k 0 = 0) (h : val b xs + c * b ^ k = X * t) (h1 : x * t = c' * b + lo) (h2 : d = lo + c) :
    val b (xs.set k d) + c' * b ^ (k + 1) = (X + b ^ k * x) * t := by
  have h3 := val_put b xs k d hk
  rw [h0, Nat.mul_zero, Nat.add_zero] at h3
  rw [Nat.pow_succ]
  generalize b ^ k = P at *
  have := Step.shl (P := P) (L := val b xs) (X := X) (c := c) (x := x) (t := t) (hi := c') (lo := lo) (B := b) (q := d) h h1 h2
  omega

/-- A shift to the left: the number scaled, one word more, in a new block. -/
def Wide (w w' : World) (v : Value) (n x : Nat) : Prop :=
  ∃ ys cap, v = .slice (some ⟨w.heap.size, 0, none⟩) n cap ∧ n ≤ cap ∧ cap ≤ maxLen ∧ ys.length = n ∧ Dig WB ys ∧ val WB ys = x ∧ RowW 94 w' w.heap.size 0 ys

set_option maxRecDepth 100000 in
set_option maxHeartbeats 1600000 in
theorem shl_any (va : Value) (x s : Nat) (w : World) (ha : Nums 94 .u64 WB w va x) (hs : s < 64) (hlx : ln WB x ≤ 1099511627776) :
    Calls Tryd.prog 103 #[va, .int .i64 (s : Nat)] w fun e w' => (∃ v, e = .returned v ∧ Wide w w' v (ln WB x + 1) (x * 2 ^ s)) ∧ Below w.heap.size w w' := by
  obtain ⟨i0, hi, hz0, hz1, hz2⟩ := info_parts Tryd.info_u64p
  obtain ⟨Aa, ca, rfl, hca, hca', _⟩ := RowF.open ha
  have h2 := WB_two
  have HA := Lib.hid ha; clear ha
  obtain ⟨la, hla⟩ : ∃ la, la = ln WB x := ⟨_, rfl⟩
  rw [← hla] at HA hca hlx ⊢
  have Hla := Lib.hid hla; clear hla
  have hs64 : IntKind.i64.wrap (64 - (s : Int)) = 64 - (s : Int) := IntWalk.i64_in _ (by omega)
  go_enter Tryd.func103, Tryd.ntmps103
  go_wp2_with (at_make; refine wpList_make_full _ rfl _ _ 45 rfl w.heap.size 94 i0 (.int .u64 0) 1 Tryd.underlying45 hi hz0 hz1 _ _ _ _ (la + 1) rfl rfl (by omega) (by omega) ?b2 ?b3 (Nat.le_refl _) ?_)
  case b2 => rw [hz2]; omega
  case b3 => unfold maxLen; omega
  intro w0 hown0 hgrow0
  have hrow0 := own_rowW (made_own hown0)
  have hbel0 : Below w.heap.size w w0 := (Below.refl _ _).grown hgrow0 (Nat.le_refl _) (fun k h => by cases h)
  clear hown0 hgrow0
  go_wp2_with fail
  go_loopw [6, 15] (fun cv i wr => ∃ (k c : Nat) (ys : List Nat), cv = .int .u64 (c : Nat) ∧ i = .int .i64 (k : Nat) ∧ k ≤ la ∧ c < 2 ^ s ∧ ys.length = la + 1 ∧ Dig WB ys ∧ val WB ys + c * WB ^ k = x % WB ^ k * 2 ^ s ∧ (∀ j, k ≤ j → ys.getD j 0 = 0) ∧ RowW 94 wr w.heap.size 0 ys ∧ Below w.heap.size w wr) (fun _ i _ => la - (intOf i).toNat)
  case atStart => exact ⟨0, 0, _, rfl, rfl, by omega, Nat.pow_pos (by omega), by simp, rep_dig _, by rw [val_replicate_zero]; simp [Nat.mod_one], (fun j _ => rep_getD _ _), hrow0, hbel0⟩
  case round =>
    clear hrow0 hbel0
    obtain ⟨k, c, ys, rfl, rfl, hkl, hc, hlen, hdig, hval, hzero, hrow, hbel⟩ := hrel
    have hkl2 : k < ys.length := by rw [hlen]; omega
    have hz : ys.getD k 0 = 0 := hzero k (Nat.le_refl _)
    have Hlen := Lib.hid hlen; clear hlen
    have Hdig := Lib.hid hdig; clear hdig
    have Hval := Lib.hid hval; clear hval
    have Hrow := Lib.hid hrow; clear hrow
    have Hbel := Lib.hid hbel; clear hbel
    have Hzero := Lib.hid hzero; clear hzero
    have Hz := Lib.hid hz; clear hz
    have Hc := Lib.hid hc; clear hc
    have hcl : c < 18446744073709551616 := by
      have h1 : (2 : Nat) ^ s ≤ 2 ^ 64 := Nat.pow_le_pow_right (by omega) (by omega)
      have := Hc.out
      omega
    by_cases hk : k < la
    · obtain ⟨bb, ob, rfl, hcB⟩ := (HA.out.below Hbel.out (Nat.le_refl _)).get Hla.out hk
      obtain ⟨E, hE⟩ : ∃ E, E = dg WB x k := ⟨_, rfl⟩
      rw [← hE] at hcB
      have hEb : E < WB := by rw [hE]; exact dg_lt _ _ _ h2
      have hw := Step.shl_word E s c (by omega) Hc.out
      obtain ⟨lo, hlo⟩ : ∃ lo, lo = E * 2 ^ s % 18446744073709551616 := ⟨_, rfl⟩
      obtain ⟨c', hc'⟩ : ∃ c', c' = E / 2 ^ (64 - s) := ⟨_, rfl⟩
      obtain ⟨d, hd⟩ : ∃ d, d = lo + c := ⟨_, rfl⟩
      rw [← hlo, ← hc', ← hd] at hw
      have hlol : lo < 18446744073709551616 := by rw [hlo]; exact Nat.mod_lt _ (by omega)
      have hd2 : d < WB := by rw [← hw.1]; exact Nat.or_lt_two_pow (n := 64) hlol hcl
      have hc2 : c' < 2 ^ s := by
        rw [hc', Nat.div_lt_iff_lt_mul (Nat.pow_pos (by omega)), ← Step.two_pow_split s (by omega)]; exact hEb
      have kd : bits BinOp.or IntKind.u64 (lo : Int) (c : Int) = (d : Int) := by rw [bits_or_u64_nat lo c hlol hcl, hw.1]
      have klo : IntKind.u64.wrap ((E : Int) * 2 ^ s) = (lo : Int) := by
        have e : ((E : Int) * 2 ^ s) = ((E * 2 ^ s : Nat) : Int) := by simp
        rw [e, IntKind.wrap_u64, hlo]; omega
      have kc : (E : Int) / 2 ^ (64 - s) = (c' : Int) := by rw [hc']; simp
      have hnew : val WB (ys.set k d) + c' * WB ^ (k + 1) = x % WB ^ (k + 1) * 2 ^ s := by
        rw [mod_pow_succ WB x k h2, ← hE]
        exact shl_put hkl2 Hz.out Hval.out hw.2 hd
      have Hnew := Lib.hid hnew; clear hnew
      have hcA : wr.cell? ⟨w.heap.size, k, none⟩ = some (.int .u64 (ys.getD k 0 : Nat)) := by have := Hrow.out.cell (j := k) hkl2; rwa [Nat.zero_add] at this
      have hfA : wr.frozen? ⟨w.heap.size, k, none⟩ = false := Hrow.out.free _
      have Hrow2 := Hrow.out.set k hkl2 d
      rw [Nat.zero_add] at Hrow2
      have Hrow3 := Lib.hid Hrow2; clear Hrow2
      have Hbel3 := Lib.hid (Hbel.out.setCell (p := ⟨w.heap.size, k, none⟩) (Nat.le_refl _) (.int .u64 (d : Nat)))
      have Hd2 := Lib.hid hd2; clear hd2
      have Hc2 := Lib.hid hc2; clear hc2
      have Hzero2 : Hid (∀ j, k + 1 ≤ j → (ys.set k d).getD j 0 = 0) := Lib.hid fun j hj => by rw [getD_put_ne _ _ _ _ (by omega)]; exact Hzero.out j (by omega)
      clear hE hEb hlo hc' hd hw hlol hkl2 hcl
      go_wp2_with fail
      go_roundw
      case rel => exact ⟨k + 1, c', ys.set k d, rfl, by go_num, by omega, Hc2.out, by rw [List.length_set]; exact Hlen.out, Hdig.out.put _ Hd2.out, Hnew.out, Hzero2.out, Hrow3.out, Hbel3.out⟩
      case measure => simp [intOf]; omega
    · obtain rfl : k = la := by omega
      have hcA : wr.cell? ⟨w.heap.size, k, none⟩ = some (.int .u64 (ys.getD k 0 : Nat)) := by have := Hrow.out.cell (j := k) hkl2; rwa [Nat.zero_add] at this
      have hfA : wr.frozen? ⟨w.heap.size, k, none⟩ = false := Hrow.out.free _
      have Hrow2 := Hrow.out.set k hkl2 c
      rw [Nat.zero_add] at Hrow2
      have Hrow3 := Lib.hid Hrow2; clear Hrow2
      have Hbel3 := Lib.hid (Hbel.out.setCell (p := ⟨w.heap.size, k, none⟩) (Nat.le_refl _) (.int .u64 (c : Nat)))
      have hv : val WB (ys.set k c) = x * 2 ^ s := by
        have h3 := val_put WB ys k c hkl2
        have h4 := Hval.out
        rw [mod_pow_ln WB x k h2 (by rw [← Hla.out]; omega)] at h4
        rw [Hz.out, Nat.mul_zero, Nat.add_zero, Nat.mul_comm] at h3
        rw [h3]; exact h4
      have Hv := Lib.hid hv; clear hv
      have hcW : c < WB := hcl
      have HcW := Lib.hid hcW; clear hcW
      clear hkl2 hcl hk
      go_wp2_with fail
      go_ret
      exact ⟨⟨_, rfl, ys.set k c, _, rfl, Nat.le_refl _, by unfold maxLen; omega, by rw [List.length_set]; exact Hlen.out, Hdig.out.put _ HcW.out, Hv.out, Hrow3.out⟩, Hbel3.out⟩

end Go.Proofs.YtdjldhkmcmbiiaaDoor
/-
  The program's shift of a row of words to the right by less than a word.
-/
namespace Go.Proofs.YtdjldhkmcmbiiaaDoor
open Go.RowKit Num

theorem shr_step {x Y s : Nat} (hs : s ≤ 64) (hx : x < 18446744073709551616) :
    (x / 2 ^ s ||| (Y * 2 ^ (64 - s) % 18446744073709551616)) < 18446744073709551616 ∧ (x / 2 ^ s ||| (Y * 2 ^ (64 - s) % 18446744073709551616)) + 18446744073709551616 * (Y / 2 ^ s) = (x + 18446744073709551616 * Y) / 2 ^ s := by
  have hp : 0 < 2 ^ s := Nat.pow_pos (by omega)
  have e := Step.shr_word x Y s hs hx
  rw [e]
  have h1 := Nat.div_add_mod Y (2 ^ s)
  have h2 := Nat.mod_lt Y hp
  obtain ⟨q, hq⟩ : ∃ q, q = Y / 2 ^ s := ⟨_, rfl⟩
  obtain ⟨r, hr⟩ : ∃ r, r = Y % 2 ^ s := ⟨_, rfl⟩
  rw [← hq, ← hr] at h1
  rw [← hr] at h2
  rw [← hq, ← hr]
  generalize 2 ^ s = p at *
  constructor
  · rw [Nat.div_lt_iff_lt_mul hp]
    have h3 : 18446744073709551616 * (r + 1) ≤ 18446744073709551616 * p := Nat.mul_le_mul_left _ h2
    omega
  · have e2 : x + 18446744073709551616 * Y = (x + 18446744073709551616 * r) + p * (18446744073709551616 * q) := by
      rw [← h1, Nat.mul_add, Nat.mul_left_comm]; omega
    rw [e2, Nat.add_mul_div_left _ _ hp]

set_option maxRecDepth 100000 in
set_option maxHeartbeats 1600000 in
theorem shr_any (A1 : Option Addr) (n ca : Nat) (xs : List Nat) (s : Nat) (w : World) (ha : RowF 94 .u64 w (.slice A1 n ca) n fun j => xs.getD j 0) (hd : Dig WB xs) (hl : xs.length = n) (hs : s < 64) (hln : n ≤ 1099511627777) :
    Calls Tryd.prog 105 #[.slice A1 n ca, .int .i64 (s : Nat)] w fun e w' => (∃ v, e = .returned v ∧ Wide w w' v n (val WB xs / 2 ^ s)) ∧ Below w.heap.size w w' := by
  obtain ⟨i0, hi, hz0, hz1, hz2⟩ := info_parts Tryd.info_u64p
  have h2 := WB_two
  have HA := Lib.hid ha; clear ha
  have Hd := Lib.hid hd; clear hd
  have Hl := Lib.hid hl; clear hl
  have hs64 : IntKind.i64.wrap (64 - (s : Int)) = 64 - (s : Int) := IntWalk.i64_in _ (by omega)
  go_enter Tryd.func105, Tryd.ntmps105
  go_wp2_with (at_make; refine wpList_make_full _ rfl _ _ 45 rfl w.heap.size 94 i0 (.int .u64 0) 1 Tryd.underlying45 hi hz0 hz1 _ _ _ _ n rfl rfl (by omega) (by omega) ?b2 ?b3 (Nat.le_refl _) ?_)
  case b2 => rw [hz2]; omega
  case b3 => unfold maxLen; omega
  intro w0 hown0 hgrow0
  have hrow0 := own_rowW (made_own hown0)
  have hbel0 : Below w.heap.size w w0 := (Below.refl _ _).grown hgrow0 (Nat.le_refl _) (fun k h => by cases h)
  clear hown0 hgrow0
  go_wp2_with fail
  go_loopw [6, 7] (fun cv i wr => ∃ (k c : Nat) (ys : List Nat), cv = .int .u64 (c : Nat) ∧ i = .int .i64 ((k : Int) - 1) ∧ k ≤ n ∧ c = val WB (xs.drop k) * 2 ^ (64 - s) % 18446744073709551616 ∧ ys.length = n ∧ Dig WB ys ∧ val WB (ys.drop k) = val WB (xs.drop k) / 2 ^ s ∧ RowW 94 wr w.heap.size 0 ys ∧ Below w.heap.size w wr) (fun _ i _ => ((intOf i) + 1).toNat)
  case atStart => exact ⟨n, 0, _, rfl, rfl, by omega, by rw [List.drop_of_length_le (by rw [Hl.out]; omega)]; simp [val], by simp, rep_dig _, by rw [List.drop_of_length_le (by simp), List.drop_of_length_le (by rw [Hl.out]; omega)]; simp [val], hrow0, hbel0⟩
  case round =>
    clear hrow0 hbel0
    obtain ⟨k, c, ys, rfl, rfl, hkl, hc, hlen, hdig, hval, hrow, hbel⟩ := hrel
    have Hlen := Lib.hid hlen; clear hlen
    have Hdig := Lib.hid hdig; clear hdig
    have Hval := Lib.hid hval; clear hval
    have Hrow := Lib.hid hrow; clear hrow
    have Hbel := Lib.hid hbel; clear hbel
    have Hc := Lib.hid hc; clear hc
    by_cases hk0 : 1 ≤ k
    · obtain ⟨q, rfl⟩ : ∃ q, k = q + 1 := ⟨k - 1, by omega⟩
      obtain ⟨bb, ob, rfl, hcB⟩ := (HA.out.below Hbel.out (Nat.le_refl _)).get (show q < n by omega)
      obtain ⟨E, hE⟩ : ∃ E, E = xs.getD q 0 := ⟨_, rfl⟩
      rw [← hE] at hcB
      have hEb : E < 18446744073709551616 := by rw [hE]; exact getD_below (by unfold WB; omega) Hd.out _
      obtain ⟨Y, hY⟩ : ∃ Y, Y = val WB (xs.drop (q + 1)) := ⟨_, rfl⟩
      have hYq : val WB (xs.drop q) = E + WB * Y := by
        rw [val_drop_step WB xs q (by rw [Hl.out]; omega), hY, hE, getD_eq _ _ (by rw [Hl.out]; omega)]
      have hst := shr_step (x := E) (Y := Y) (s := s) (by omega) hEb
      have hcl : c < 18446744073709551616 := by rw [Hc.out]; exact Nat.mod_lt _ (by omega)
      obtain ⟨d, hd'⟩ : ∃ d, d = (E / 2 ^ s ||| c) := ⟨_, rfl⟩
      have hcc := Hc.out
      rw [← hY] at hcc
      rw [← hcc, ← hd'] at hst
      obtain ⟨g, hg⟩ : ∃ g, g = E / 2 ^ s := ⟨_, rfl⟩
      have hgl : g < 18446744073709551616 := by rw [hg]; exact Nat.lt_of_le_of_lt (Nat.div_le_self _ _) hEb
      have kg : (E : Int) / 2 ^ s = (g : Int) := by rw [hg]; simp
      have kd : bits BinOp.or IntKind.u64 (g : Int) (c : Int) = (d : Int) := by rw [bits_or_u64_nat g c hgl hcl, hg, hd']
      obtain ⟨c', hc'⟩ : ∃ c', c' = E * 2 ^ (64 - s) % 18446744073709551616 := ⟨_, rfl⟩
      have kc : IntKind.u64.wrap ((E : Int) * 2 ^ (64 - s)) = (c' : Int) := by
        have e : ((E : Int) * 2 ^ (64 - s)) = ((E * 2 ^ (64 - s) : Nat) : Int) := by simp
        rw [e, IntKind.wrap_u64, hc']; omega
      have hc2 : c' = val WB (xs.drop q) * 2 ^ (64 - s) % 18446744073709551616 := by
        rw [hYq, hc', Nat.add_mul, show WB * Y * 2 ^ (64 - s) = 18446744073709551616 * (Y * 2 ^ (64 - s)) from by rw [Nat.mul_assoc]; rfl, Nat.add_mul_mod_self_left]
      have hkl2 : q < ys.length := by rw [Hlen.out]; omega
      have hnew : val WB ((ys.set q d).drop q) = val WB (xs.drop q) / 2 ^ s := by
        rw [val_drop_step _ _ _ (by rw [List.length_set]; omega), List.getElem_set_self, List.drop_set_of_lt (Nat.lt_add_one _), Hval.out, ← hY, hYq]
        exact hst.2
      have Hnew := Lib.hid hnew; clear hnew
      have hd2 : d < WB := hst.1
      have Hd2 := Lib.hid hd2; clear hd2
      have Hc2 := Lib.hid hc2; clear hc2
      have hcA : wr.cell? ⟨w.heap.size, q, none⟩ = some (.int .u64 (ys.getD q 0 : Nat)) := by have := Hrow.out.cell (j := q) hkl2; rwa [Nat.zero_add] at this
      have hfA : wr.frozen? ⟨w.heap.size, q, none⟩ = false := Hrow.out.free _
      have Hrow2 := Hrow.out.set q hkl2 d
      rw [Nat.zero_add] at Hrow2
      have Hrow3 := Lib.hid Hrow2; clear Hrow2
      have hbel3 := Hbel.out.setCell (p := ⟨w.heap.size, q, none⟩) (Nat.le_refl _) (.int .u64 (d : Nat))
      have hcB2 : (wr.setCell ⟨w.heap.size, q, none⟩ (.int .u64 (d : Nat))).cell? ⟨bb, ob + q, none⟩ = some (.int .u64 (E : Nat)) := by
        obtain ⟨b3, o3, h3, hc3⟩ := (HA.out.below hbel3 (Nat.le_refl _)).get (show q < n by omega)
        injection h3 with h3
        injection h3 with h4 h5
        rw [← h4, ← h5, ← hE] at hc3
        exact hc3
      have Hbel3 := Lib.hid hbel3; clear hbel3
      clear hE hEb hY hYq hst hd' hcc hg hgl hc' hkl2 hcl
      go_wp2_with fail
      go_roundw
      case rel => exact ⟨q, c', ys.set q d, rfl, by go_num, by omega, Hc2.out, by rw [List.length_set]; exact Hlen.out, Hdig.out.put _ Hd2.out, Hnew.out, Hrow3.out, Hbel3.out⟩
      case measure => simp [intOf]
    · obtain rfl : k = 0 := by omega
      have e1 := Hval.out
      simp only [List.drop_zero] at e1
      have He1 := Lib.hid e1; clear e1
      go_wp2_with fail
      go_ret
      exact ⟨⟨_, rfl, ys, _, rfl, Nat.le_refl _, by unfold maxLen; omega, Hlen.out, Hdig.out, He1.out, Hrow.out⟩, Hbel.out⟩

end Go.Proofs.YtdjldhkmcmbiiaaDoor
