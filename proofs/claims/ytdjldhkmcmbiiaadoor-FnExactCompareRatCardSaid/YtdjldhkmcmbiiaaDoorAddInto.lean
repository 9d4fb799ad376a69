/-
  The program's addition of a number to a row of words, in place.
-/
import Derived.Test.YtdjldhkmcmbiiaaDoorRowW
import Derived.Test.YtdjldhkmcmbiiaaDoorPureM
import Derived.Test.YtdjldhkmcmbiiaaDoorWordW
namespace Go.Proofs.YtdjldhkmcmbiiaaDoor
open Go.RowKit Num

theorem put_step {b : Nat} {xs : List Nat} {k d c' c o e : Nat} {X Y : Nat} (hk : k < xs.length) (ho : o = xs.getD k 0) (h : val b xs + c * b ^ k = X + Y) (hd : o + e + c = d + c' * b) :
    val b (xs.set k d) + c' * b ^ (k + 1) = X + (Y + b ^ k * e) := by
  have h1 := val_put b xs k d hk
  rw [← ho] at h1
  rw [Nat.pow_succ]
  generalize b ^ k = P at *
  have h2 : P * (o + e + c) = P * (d + c' * b) := by rw [hd]
  simp only [Nat.mul_add] at h2
  have e1 : P * (c' * b) = c' * (P * b) := by rw [← Nat.mul_assoc, Nat.mul_comm P c', Nat.mul_assoc]
  have e2 : P * c = c * P := Nat.mul_comm _ _
  omega

set_option maxRecDepth 100000 in
set_option maxHeartbeats 1600000 in
theorem addInto_any (g off ca la : Nat) (xs : List Nat) (vb : Value) (y : Nat) (w : World) (hx : RowW 94 w g off xs) (hd : Dig WB xs) (hl : xs.length = la) (hla : la ≤ maxLen) (hb : Nums 94 .u64 WB w vb y) (hne : vb.ownBlock ≠ some g) (hly : ln WB y ≤ la) :
    Calls Tryd.prog 133 #[.slice (some ⟨g, off, none⟩) la ca, vb] w fun e w' => (∃ xs' c, e = .returned (.int .u64 (c : Nat)) ∧ c ≤ 1 ∧ xs'.length = la ∧ Dig WB xs' ∧ val WB xs' + c * WB ^ la = val WB xs + y ∧ RowW 94 w' g off xs') ∧ Wrote g off (off + la) w w' := by
  obtain ⟨Ab, cb, rfl, hcb, hcb', _⟩ := RowF.open hb
  unfold maxLen at hla
  have HX := Lib.hid hx; clear hx
  have HB := Lib.hid hb; clear hb
  have Hne := Lib.hid hne; clear hne
  have Hd := Lib.hid hd; clear hd
  have Hl := Lib.hid hl; clear hl
  obtain ⟨lb, hlb⟩ : ∃ lb, lb = ln WB y := ⟨_, rfl⟩
  rw [← hlb] at HB Hne hcb hly ⊢
  have Hlb := Lib.hid hlb; clear hlb
  have h2 := WB_two
  go_enter Tryd.func133, Tryd.ntmps133
  go_wp2_with fail
  go_loopw [5, 11] (fun cv i wr => ∃ (k c : Nat) (ys : List Nat), cv = .int .u64 (c : Nat) ∧ i = .int .i64 (k : Nat) ∧ k ≤ lb ∧ c ≤ 1 ∧ ys.length = la ∧ Dig WB ys ∧ val WB ys + c * WB ^ k = val WB xs + y % WB ^ k ∧ RowW 94 wr g off ys ∧ Wrote g off (off + la) w wr) (fun _ i _ => lb - (intOf i).toNat)
  case atStart => exact ⟨0, 0, xs, rfl, rfl, by omega, by omega, Hl.out, Hd.out, by simp [Nat.mod_one], HX.out, Wrote.refl _ _ _ _⟩
  case round =>
    obtain ⟨k, c, ys, rfl, rfl, hkl, hc1, hlen, hdig, hval, hrow, hwr⟩ := hrel
    have Hlen := Lib.hid hlen; clear hlen
    have Hdig := Lib.hid hdig; clear hdig
    have Hval := Lib.hid hval; clear hval
    have Hrow := Lib.hid hrow; clear hrow
    have Hwr := Lib.hid hwr; clear hwr
    by_cases hk : k < lb
    · obtain ⟨bb, ob, rfl, hcB⟩ := (HB.out.wrote Hwr.out Hne.out).get Hlb.out hk
      obtain ⟨o, ho⟩ : ∃ o, o = ys.getD k 0 := ⟨_, rfl⟩
      have hkl2 : k < ys.length := by rw [Hlen.out]; omega
      have hcA : wr.cell? ⟨g, off + k, none⟩ = some (.int .u64 (o : Nat)) := by rw [ho]; exact Hrow.out.cell hkl2
      have hfA : wr.frozen? ⟨g, off + k, none⟩ = false := Hrow.out.free _
      obtain ⟨E, hE⟩ : ∃ E, E = dg WB y k := ⟨_, rfl⟩
      rw [← hE] at hcB
      obtain ⟨d', hd'⟩ : ∃ d', d' = (o + E + c) % WB := ⟨_, rfl⟩
      obtain ⟨c', hc'⟩ : ∃ c', c' = (o + E + c) / WB := ⟨_, rfl⟩
      have hob : o < WB := by rw [ho]; exact getD_below (by omega) Hdig.out _
      have hEb : E < WB := by rw [hE]; exact dg_lt _ _ _ h2
      have hd2 : d' < WB := by rw [hd']; exact Nat.mod_lt _ (by omega)
      have hc2 : c' ≤ 1 := by rw [hc']; apply Nat.le_of_lt_succ; rw [Nat.div_lt_iff_lt_mul (by omega)]; omega
      have hsum : o + E + c = d' + c' * WB := by rw [hd', hc', Nat.mul_comm]; exact (Nat.mod_add_div _ _).symm
      have hadd : ∀ W, (callFunc 107 #[.int .u64 (o : Nat), .int .u64 (E : Nat), .int .u64 (c : Nat)]).run Tryd.prog W = .ok (.value (.tuple #[.int .u64 (d' : Nat), .int .u64 (c' : Nat)])) W := fun W => by rw [hd', hc']; exact Tryd.add64_run o E c hc1 W
      have hnew : val WB (ys.set k d') + c' * WB ^ (k + 1) = val WB xs + y % WB ^ (k + 1) := by
        rw [mod_pow_succ WB y k h2, ← hE]
        exact put_step hkl2 ho Hval.out hsum
      have Hnew := Lib.hid hnew; clear hnew
      have hrow2 := Hrow.out.set k hkl2 d'
      have Hrow2 := Lib.hid hrow2; clear hrow2
      have hwr2 := Hwr.out.setCell (i := off + k) (by omega) (by omega) (.int .u64 (d' : Nat))
      have Hwr2 := Lib.hid hwr2; clear hwr2
      have Hd2 := Lib.hid hd2; clear hd2
      have Hc2 := Lib.hid hc2; clear hc2
      have Hcl := Lib.hid hkl2
      clear ho hE hd' hc' hsum hob hEb hkl2
      go_wp2_with fail
      go_roundw
      case rel => exact ⟨k + 1, c', ys.set k d', rfl, by go_num, by omega, Hc2.out, by rw [List.length_set]; exact Hlen.out, Hdig.out.put _ Hd2.out, Hnew.out, Hrow2.out, Hwr2.out⟩
      case measure => simp [intOf]; omega
    · obtain rfl : k = lb := by omega
      have hval := Hval.out
      rw [mod_pow_ln WB y k h2 (by rw [← Hlb.out]; omega)] at hval
      have Hval2 := Lib.hid hval; clear hval
      clear hk
      go_wp2_with fail
      go_loopw [5, 8] (fun cv i wr => ∃ (j c : Nat) (ys : List Nat), cv = .int .u64 (c : Nat) ∧ i = .int .i64 (j : Nat) ∧ j ≤ la ∧ c ≤ 1 ∧ ys.length = la ∧ Dig WB ys ∧ val WB ys + c * WB ^ j = val WB xs + y ∧ RowW 94 wr g off ys ∧ Wrote g off (off + la) w wr) (fun _ i _ => la - (intOf i).toNat)
      case atStart => exact ⟨k, c, ys, rfl, rfl, by omega, hc1, Hlen.out, Hdig.out, Hval2.out, Hrow.out, Hwr.out⟩
      case round =>
        clear hc1 Hlen Hdig Hval Hrow Hwr Hval2
        obtain ⟨j, c, ys, rfl, rfl, hjl, hc1, hlen, hdig, hval, hrow, hwr⟩ := hrel
        have Hlen := Lib.hid hlen; clear hlen
        have Hdig := Lib.hid hdig; clear hdig
        have Hval := Lib.hid hval; clear hval
        have Hrow := Lib.hid hrow; clear hrow
        have Hwr := Lib.hid hwr; clear hwr
        by_cases hc0 : c = 0
        · subst hc0
          have hfin : ∃ xs' c, (0 : Nat) = c ∧ c ≤ 1 ∧ xs'.length = la ∧ Dig WB xs' ∧ val WB xs' + c * WB ^ la = val WB xs + y ∧ RowW 94 wr g off xs' := ⟨ys, 0, rfl, by omega, Hlen.out, Hdig.out, by have := Hval.out; simpa using this, Hrow.out⟩
          have Hfin := Lib.hid hfin; clear hfin
          go_wp2_with fail
          go_ret
          obtain ⟨xs', c, e0, h⟩ := Hfin.out
          exact ⟨⟨xs', c, by rw [← e0]; rfl, h⟩, Hwr.out⟩
        · obtain rfl : c = 1 := by omega
          by_cases hj : j < la
          · obtain ⟨o, ho⟩ : ∃ o, o = ys.getD j 0 := ⟨_, rfl⟩
            have hkl2 : j < ys.length := by rw [Hlen.out]; omega
            have hcA : wr.cell? ⟨g, off + j, none⟩ = some (.int .u64 (o : Nat)) := by rw [ho]; exact Hrow.out.cell hkl2
            have hfA : wr.frozen? ⟨g, off + j, none⟩ = false := Hrow.out.free _
            obtain ⟨d', hd'⟩ : ∃ d', d' = (o + 0 + 1) % WB := ⟨_, rfl⟩
            obtain ⟨c', hc'⟩ : ∃ c', c' = (o + 0 + 1) / WB := ⟨_, rfl⟩
            have hob : o < WB := by rw [ho]; exact getD_below (by omega) Hdig.out _
            have hd2 : d' < WB := by rw [hd']; exact Nat.mod_lt _ (by omega)
            have hc2 : c' ≤ 1 := by rw [hc']; apply Nat.le_of_lt_succ; rw [Nat.div_lt_iff_lt_mul (by omega)]; omega
            have hsum : o + 0 + 1 = d' + c' * WB := by rw [hd', hc', Nat.mul_comm]; exact (Nat.mod_add_div _ _).symm
            have hadd : ∀ W, (callFunc 107 #[.int .u64 (o : Nat), .int .u64 0, .int .u64 1]).run Tryd.prog W = .ok (.value (.tuple #[.int .u64 (d' : Nat), .int .u64 (c' : Nat)])) W := fun W => by rw [hd', hc']; exact Tryd.add64_run o 0 1 (by omega) W
            have hnew : val WB (ys.set j d') + c' * WB ^ (j + 1) = val WB xs + y := by
              have := put_step (e := 0) (c := 1) (d := d') (c' := c') hkl2 ho Hval.out hsum
              simpa using this
            have Hnew := Lib.hid hnew; clear hnew
            have hrow2 := Hrow.out.set j hkl2 d'
            have Hrow2 := Lib.hid hrow2; clear hrow2
            have hwr2 := Hwr.out.setCell (i := off + j) (by omega) (by omega) (.int .u64 (d' : Nat))
            have Hwr2 := Lib.hid hwr2; clear hwr2
            have Hd2 := Lib.hid hd2; clear hd2
            have Hc2 := Lib.hid hc2; clear hc2
            clear ho hd' hc' hsum hob hkl2
            go_wp2_with fail
            go_roundw
            case rel => exact ⟨j + 1, c', ys.set j d', rfl, by go_num, by omega, Hc2.out, by rw [List.length_set]; exact Hlen.out, Hdig.out.put _ Hd2.out, Hnew.out, Hrow2.out, Hwr2.out⟩
            case measure => simp [intOf]; omega
          · obtain rfl : j = la := by omega
            go_wp2_with fail
            go_ret
            exact ⟨⟨ys, 1, rfl, by omega, Hlen.out, Hdig.out, Hval.out, Hrow.out⟩, Hwr.out⟩

end Go.Proofs.YtdjldhkmcmbiiaaDoor
