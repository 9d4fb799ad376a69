/-
  Several texts in one: AddInto, SubMul.
-/
import Derived.Test.YtbcckgofoknmbaaDoorPWord
import Derived.Test.YtbcckgofoknmbaaDoorPureM
/-
  The program's addition of a number to a row of words, in place.
-/
namespace Go.Proofs.YtbcckgofoknmbaaDoor
open Go.RowKit Num

theorem put_step {b : Nat} {xs : List Nat} {k d c' c o e : Nat} {X Y : Nat} (hk : k < xs.length) (ho : o = xs.getD k 0) (h : val b xs + c * b ^ k = X + Y) (hd : o + e + c = d + c' * b) :
    val b (xs.set k d) + c' * b ^ (k + 1) = X + (Y + b ^ k * e) := by
  have h1 := val_put b xs k d hk
  rw [← ho] at h1
  rw [Nat.pow_succ]
  generalize b ^ k = P at *
  have h2 : P * (o + e + c) = P * (d + c' * b) := by rw [hd]
  simp only [Nat.mul_add] at h2
  have e1 : P * (c' * b) = c' * (P * b) := by rw [← Nat.mul_assoc, Nat.mul_comm P c', Nat.mul_assoc]
  have e2 : P * c = c * P := Nat.mul_comm _ _
  omega

set_option maxRecDepth 100000 in
set_option maxHeartbeats 1600000 in
theorem addInto_any (g off ca la : Nat) (xs : List Nat) (vb : Value) (y : Nat) (w : World) (hx : RowW 64 w g off xs) (hd : Dig WB xs) (hl : xs.length = la) (hla : la ≤ maxLen) (hb : Nums 64 .u64 WB w vb y) (hne : vb.ownBlock ≠ some g) (hly : ln WB y ≤ la) :
    Calls Tryd.prog 91 #[.slice (some ⟨g, off, none⟩) la ca, vb] w fun e w' => (∃ xs' c, e = .returned (.int .u64 (c : Nat)) ∧ c ≤ 1 ∧ xs'.length = la ∧ Dig WB xs' ∧ val WB xs' + c * WB ^ la = val WB xs + y ∧ RowW 64 w' g off xs') ∧ Wrote g off (off + la) w w' := by
  obtain ⟨Ab, cb, rfl, hcb, hcb', _⟩ := RowF.open hb
  unfold maxLen at hla
  have HX := Lib.hid hx; clear hx
  have HB := Lib.hid hb; clear hb
  have Hne := Lib.hid hne; clear hne
  have Hd := Lib.hid hd; clear hd
  have Hl := Lib.hid hl; clear hl
  obtain ⟨lb, hlb⟩ : ∃ lb, lb = ln WB y := ⟨_, rfl⟩
  rw [← hlb] at HB Hne hcb hly ⊢
  have Hlb := Lib.hid hlb; clear hlb
  have h2 := WB_two
  go_enter Tryd.func91, Tryd.ntmps91
  go_wp2_with fail
  go_loopw [5, 11] (fun cv i wr => ∃ (k c : Nat) (ys : List Nat), cv = .int .u64 (c : Nat) ∧ i = .int .i64 (k : Nat) ∧ k ≤ lb ∧ c ≤ 1 ∧ ys.length = la ∧ Dig WB ys ∧ val WB ys + c * WB ^ k = val WB xs + y % WB ^ k ∧ RowW 64 wr g off ys ∧ Wrote g off (off + la) w wr) (fun _ i _ => lb - (intOf i).toNat)
  case atStart => exact ⟨0, 0, xs, rfl, rfl, by omega, by omega, Hl.out, Hd.out, by simp [Nat.mod_one], HX.out, Wrote.refl _ _ _ _⟩
  case round =>
    obtain ⟨k, c, ys, rfl, rfl, hkl, hc1, hlen, hdig, hval, hrow, hwr⟩ := hrel
    have Hlen := Lib.hid hlen; clear hlen
    have Hdig := Lib.hid hdig; clear hdig
    have Hval := Lib.hid hval; clear hval
    have Hrow := Lib.hid hrow; clear hrow
    have Hwr := Lib.hid hwr; clear hwr
    by_cases hk : k < lb
    · obtain ⟨bb, ob, rfl, hcB⟩ := (HB.out.wrote Hwr.out Hne.out).get Hlb.out hk
      obtain ⟨o, ho⟩ : ∃ o, o = ys.getD k 0 := ⟨_, rfl⟩
      have hkl2 : k < ys.length := by rw [Hlen.out]; omega
      have hcA : wr.cell? ⟨g, off + k, none⟩ = some (.int .u64 (o : Nat)) := by rw [ho]; exact Hrow.out.cell hkl2
      have hfA : wr.frozen? ⟨g, off + k, none⟩ = false := Hrow.out.free _
      obtain ⟨E, hE⟩ : ∃ E, E = dg WB y k := ⟨_, rfl⟩
      rw [← hE] at hcB
      obtain ⟨d', hd'⟩ : ∃ d', d' = (o + E + c) % WB := ⟨_, rfl⟩
      obtain ⟨c', hc'⟩ : ∃ c', c' = (o + E + c) / WB := ⟨_, rfl⟩
      have hob : o < WB := by rw [ho]; exact getD_below (by omega) Hdig.out _
      have hEb : E < WB := by rw [hE]; exact dg_lt _ _ _ h2
      have hd2 : d' < WB := by rw [hd']; exact Nat.mod_lt _ (by omega)
      have hc2 : c' ≤ 1 := by rw [hc']; apply Nat.le_of_lt_succ; rw [Nat.div_lt_iff_lt_mul (by omega)]; omega
      have hsum : o + E + c = d' + c' * WB := by rw [hd', hc', Nat.mul_comm]; exact (Nat.mod_add_div _ _).symm
      have hadd : ∀ W, (callFunc 72 #[.int .u64 (o : Nat), .int .u64 (E : Nat), .int .u64 (c : Nat)]).run Tryd.prog W = .ok (.value (.tuple #[.int .u64 (d' : Nat), .int .u64 (c' : Nat)])) W := fun W => by rw [hd', hc']; exact Tryd.add64_run o E c hc1 W
      have hnew : val WB (ys.set k d') + c' * WB ^ (k + 1) = val WB xs + y % WB ^ (k + 1) := by
        rw [mod_pow_succ WB y k h2, ← hE]
        exact put_step hkl2 ho Hval.out hsum
      have Hnew := Lib.hid hnew; clear hnew
      have hrow2 := Hrow.out.set k hkl2 d'
      have Hrow2 := Lib.hid hrow2; clear hrow2
      have hwr2 := Hwr.out.setCell (i := off + k) (by omega) (by omega) (.int .u64 (d' : Nat))
      have Hwr2 := Lib.hid hwr2; clear hwr2
      have Hd2 := Lib.hid hd2; clear hd2
      have Hc2 := Lib.hid hc2; clear hc2
      have Hcl := Lib.hid hkl2
      clear ho hE hd' hc' hsum hob hEb hkl2
      go_wp2_with fail
      go_roundw
      case rel => exact ⟨k + 1, c', ys.set k d', rfl, by go_num, by omega, Hc2.out, by rw [List.length_set]; exact Hlen.out, Hdig.out.put _ Hd2.out, Hnew.out, Hrow2.out, Hwr2.out⟩
      case measure => simp [intOf]; omega
    · obtain rfl : k = lb := by omega
      have hval := Hval.out
      rw [mod_pow_ln WB y k h2 (by rw [← Hlb.out]; omega)] at hval
      have Hval2 := Lib.hid hval; clear hval
      clear hk
      go_wp2_with fail
      go_loopw [5, 8] (fun cv i wr => ∃ (j c : Nat) (ys : List Nat), cv = .int .u64 (c : Nat) ∧ i = .int .i64 (j : Nat) ∧ j ≤ la ∧ c ≤ 1 ∧ ys.length = la ∧ Dig WB ys ∧ val WB ys + c * WB ^ j = val WB xs + y ∧ RowW 64 wr g off ys ∧ Wrote g off (off + la) w wr) (fun _ i _ => la - (intOf i).toNat)
      case atStart => exact ⟨k, c, ys, rfl, rfl, by omega, hc1, Hlen.out, Hdig.out, Hval2.out, Hrow.out, Hwr.out⟩
      case round =>
        clear hc1 Hlen Hdig Hval Hrow Hwr Hval2
        obtain ⟨j, c, ys, rfl, rfl, hjl, hc1, hlen, hdig, hval, hrow, hwr⟩ := hrel
        have Hlen := Lib.hid hlen; clear hlen
        have Hdig := Lib.hid hdig; clear hdig
        have Hval := Lib.hid hval; clear hval
        have Hrow := Lib.hid hrow; clear hrow
        have Hwr := Lib.hid hwr; clear hwr
        by_cases hc0 : c = 0
        · subst hc0
          have hfin : ∃ xs' c, (0 : Nat) = c ∧ c ≤ 1 ∧ xs'.length = la ∧ Dig WB xs' ∧ val WB xs' + c * WB ^ la = val WB xs + y ∧ RowW 64 wr g off xs' := ⟨ys, 0, rfl, by omega, Hlen.out, Hdig.out, by have := Hval.out; simpa using this, Hrow.out⟩
          have Hfin := Lib.hid hfin; clear hfin
          go_wp2_with fail
          go_ret
          obtain ⟨xs', c, e0, h⟩ := Hfin.out
          exact ⟨⟨xs', c, by rw [← e0]; rfl, h⟩, Hwr.out⟩
        · obtain rfl : c = 1 := by omega
          by_cases hj : j < la
          · obtain ⟨o, ho⟩ : ∃ o, o = ys.getD j 0 := ⟨_, rfl⟩
            have hkl2 : j < ys.length := by rw [Hlen.out]; omega
            have hcA : wr.cell? ⟨g, off + j, none⟩ = some (.int .u64 (o : Nat)) := by rw [ho]; exact Hrow.out.cell hkl2
            have hfA : wr.frozen? ⟨g, off + j, none⟩ = false := Hrow.out.free _
            obtain ⟨d', hd'⟩ : ∃ d', d' = (o + 0 + 1) % WB := ⟨_, rfl⟩
            obtain ⟨c', hc'⟩ : ∃ c', c' = (o + 0 + 1) / WB := ⟨_, rfl⟩
            have hob : o < WB := by rw [ho]; exact getD_below (by omega) Hdig.out _
            have hd2 : d' < WB := by rw [hd']; exact Nat.mod_lt _ (by omega)
            have hc2 : c' ≤ 1 := by rw [hc']; apply Nat.le_of_lt_succ; rw [Nat.div_lt_iff_lt_mul (by omega)]; omega
            have hsum : o + 0 + 1 = d' + c' * WB := by rw [hd', hc', Nat.mul_comm]; exact (Nat.mod_add_div _ _).symm
            have hadd : ∀ W, (callFunc 72 #[.int .u64 (o : Nat), .int .u64 0, .int .u64 1]).run Tryd.prog W = .ok (.value (.tuple #[.int .u64 (d' : Nat), .int .u64 (c' : Nat)])) W := fun W => by rw [hd', hc']; exact Tryd.add64_run o 0 1 (by omega) W
            have hnew : val WB (ys.set j d') + c' * WB ^ (j + 1) = val WB xs + y := by
              have := put_step (e := 0) (c := 1) (d := d') (c' := c') hkl2 ho Hval.out hsum
              simpa using this
            have Hnew := Lib.hid hnew; clear hnew
            have hrow2 := Hrow.out.set j hkl2 d'
            have Hrow2 := Lib.hid hrow2; clear hrow2
            have hwr2 := Hwr.out.setCell (i := off + j) (by omega) (by omega) (.int .u64 (d' : Nat))
            have Hwr2 := Lib.hid hwr2; clear hwr2
            have Hd2 := Lib.hid hd2; clear hd2
            have Hc2 := Lib.hid hc2; clear hc2
            clear ho hd' hc' hsum hob hkl2
            go_wp2_with fail
            go_roundw
            case rel => exact ⟨j + 1, c', ys.set j d', rfl, by go_num, by omega, Hc2.out, by rw [List.length_set]; exact Hlen.out, Hdig.out.put _ Hd2.out, Hnew.out, Hrow2.out, Hwr2.out⟩
            case measure => simp [intOf]; omega
          · obtain rfl : j = la := by omega
            go_wp2_with fail
            go_ret
            exact ⟨⟨ys, 1, rfl, by omega, Hlen.out, Hdig.out, Hval.out, Hrow.out⟩, Hwr.out⟩

end Go.Proofs.YtbcckgofoknmbaaDoor
/-
  The program's subtraction of a multiple of a number from a row of words, in place.
-/
namespace Go.Proofs.YtbcckgofoknmbaaDoor
open Go.RowKit Num

theorem mulAdd_same (x y p lo hi : Nat) (hx : x < WB) (hy : y < WB) (hp : p < WB) (h1 : lo = (x * y + p) % WB) (h2 : hi = (x * y + p) / WB) (w : World) :
    Calls Tryd.prog 71 #[.int .u64 x, .int .u64 y, .int .u64 p] w fun e w' => e = .returned (.tuple #[.int .u64 (lo : Nat), .int .u64 (hi : Nat)]) ∧ w = w' := by
  rw [h1, h2]
  exact (mulAdd_any x y p hx hy hp w).mono fun e w' ⟨he, hw⟩ => ⟨he, hw.symm⟩

theorem mulAdd_hi {x y p : Nat} (hx : x < WB) (hy : y < WB) (hp : p < WB) : (x * y + p) / WB < WB := by
  rw [Nat.div_lt_iff_lt_mul (by unfold WB; omega)]
  have h : x * y ≤ (WB - 1) * (WB - 1) := Nat.mul_le_mul (by omega) (by omega)
  have e : (WB - 1) * (WB - 1) = WB * WB - 2 * WB + 1 := by unfold WB; rfl
  have e2 : 2 * WB ≤ WB * WB := by unfold WB; decide
  omega

theorem put_sub {b : Nat} {xs : List Nat} {k d c' c bo bo' o p f E : Nat} {X Y : Nat} (hk : k < xs.length) (ho : o = xs.getD k 0) (h : val b xs + f * Y = X + (c + bo) * b ^ k) (h1 : E * f + c = p + c' * b) (h2 : d + p + bo = o + bo' * b) :
    val b (xs.set k d) + f * (Y + b ^ k * E) = X + (c' + bo') * b ^ (k + 1) := by
  have h3 := val_put b xs k d hk
  rw [← ho] at h3
  rw [Nat.pow_succ]
  generalize b ^ k = P at *
  have := Step.submul (P := P) (L := val b xs) (f := f) (Y := Y) (X := X) (c := c) (bo := bo) (y := E) (x := o) (p := p) (c' := c') (d := d) (bo' := bo') (B := b) h h1 h2
  omega

theorem put_rest {b : Nat} {xs : List Nat} {k d c bo bo' o f : Nat} {X Y : Nat} (hk : k < xs.length) (ho : o = xs.getD k 0) (h : val b xs + f * Y = X + (c + bo) * b ^ k) (h2 : d + c + bo = o + bo' * b) :
    val b (xs.set k d) + f * Y = X + (0 + bo') * b ^ (k + 1) := by
  have h3 := val_put b xs k d hk
  rw [← ho] at h3
  rw [Nat.pow_succ]
  generalize b ^ k = P at *
  have := Step.subrest (P := P) (L := val b xs) (f := f) (Y := Y) (X := X) (c := c) (bo := bo) (x := o) (d := d) (bo' := bo') (B := b) h h2
  omega

theorem debt_lt {b P L F Y X t : Nat} (hF : F < b) (hY : Y < P) (hL : L < P) (h : L + F * Y = X + t * P) : t < b := by
  apply Nat.lt_of_not_le
  intro hle
  have h1 : b * P ≤ t * P := Nat.mul_le_mul_right _ hle
  have h2 : F * Y ≤ F * P := Nat.mul_le_mul_left _ (by omega)
  have h3 : (F + 1) * P ≤ b * P := Nat.mul_le_mul_right _ hF
  have h4 : (F + 1) * P = F * P + P := by rw [Nat.add_mul, Nat.one_mul]
  omega

set_option maxRecDepth 100000 in
set_option maxHeartbeats 1600000 in
theorem subMul_any (g off ca la : Nat) (xs : List Nat) (vb : Value) (y f : Nat) (w : World) (hf : f < WB) (hx : RowW 64 w g off xs) (hd : Dig WB xs) (hl : xs.length = la) (hla : la ≤ maxLen) (hb : Nums 64 .u64 WB w vb y) (hne : vb.ownBlock ≠ some g) (hly : ln WB y ≤ la) :
    Calls Tryd.prog 92 #[.slice (some ⟨g, off, none⟩) la ca, vb, .int .u64 (f : Nat)] w fun e w' => (∃ xs' t, e = .returned (.int .u64 (t : Nat)) ∧ t < WB ∧ xs'.length = la ∧ Dig WB xs' ∧ val WB xs' + f * y = val WB xs + t * WB ^ la ∧ RowW 64 w' g off xs') ∧ Wrote g off (off + la) w w' := by
  obtain ⟨Ab, cb, rfl, hcb, hcb', _⟩ := RowF.open hb
  unfold maxLen at hla
  have h2 := WB_two
  have hylt : y < WB ^ la := Nat.lt_of_lt_of_le (lt_pow_ln WB y h2) (Nat.pow_le_pow_right (by omega) hly)
  have Hylt := Lib.hid hylt; clear hylt
  have HX := Lib.hid hx; clear hx
  have HB := Lib.hid hb; clear hb
  have Hne := Lib.hid hne; clear hne
  have Hd := Lib.hid hd; clear hd
  have Hl := Lib.hid hl; clear hl
  obtain ⟨lb, hlb⟩ : ∃ lb, lb = ln WB y := ⟨_, rfl⟩
  rw [← hlb] at HB Hne hcb hly ⊢
  have Hlb := Lib.hid hlb; clear hlb
  have Hf := Lib.hid hf; clear hf
  go_enter Tryd.func92, Tryd.ntmps92
  go_wp2_with fail
  go_loopw [7, 8, 15] (fun cv bv i wr => ∃ (k c bo : Nat) (ys : List Nat), cv = .int .u64 (c : Nat) ∧ bv = .int .u64 (bo : Nat) ∧ i = .int .i64 (k : Nat) ∧ k ≤ lb ∧ c < WB ∧ bo ≤ 1 ∧ ys.length = la ∧ Dig WB ys ∧ val WB ys + f * (y % WB ^ k) = val WB xs + (c + bo) * WB ^ k ∧ RowW 64 wr g off ys ∧ Wrote g off (off + la) w wr) (fun _ _ i _ => lb - (intOf i).toNat)
  case atStart => exact ⟨0, 0, 0, xs, rfl, rfl, rfl, by omega, by omega, by omega, Hl.out, Hd.out, by simp [Nat.mod_one], HX.out, Wrote.refl _ _ _ _⟩
  case round =>
    obtain ⟨k, c, bo, ys, rfl, rfl, rfl, hkl, hc1, hb1, hlen, hdig, hval, hrow, hwr⟩ := hrel
    have Hlen := Lib.hid hlen; clear hlen
    have Hdig := Lib.hid hdig; clear hdig
    have Hval := Lib.hid hval; clear hval
    have Hrow := Lib.hid hrow; clear hrow
    have Hwr := Lib.hid hwr; clear hwr
    have Hc1 := Lib.hid hc1; clear hc1
    by_cases hk : k < lb
    · obtain ⟨bb, ob, rfl, hcB⟩ := (HB.out.wrote Hwr.out Hne.out).get Hlb.out hk
      obtain ⟨o, ho⟩ : ∃ o, o = ys.getD k 0 := ⟨_, rfl⟩
      have hkl2 : k < ys.length := by rw [Hlen.out]; omega
      have hcA : wr.cell? ⟨g, off + k, none⟩ = some (.int .u64 (o : Nat)) := by rw [ho]; exact Hrow.out.cell hkl2
      have hfA : wr.frozen? ⟨g, off + k, none⟩ = false := Hrow.out.free _
      obtain ⟨E, hE⟩ : ∃ E, E = dg WB y k := ⟨_, rfl⟩
      rw [← hE] at hcB
      have hob : o < WB := by rw [ho]; exact getD_below (by omega) Hdig.out _
      have hEb : E < WB := by rw [hE]; exact dg_lt _ _ _ h2
      obtain ⟨p, hp⟩ : ∃ p, p = (E * f + c) % WB := ⟨_, rfl⟩
      obtain ⟨c', hc'⟩ : ∃ c', c' = (E * f + c) / WB := ⟨_, rfl⟩
      have hpb : p < WB := by rw [hp]; exact Nat.mod_lt _ (by omega)
      have hcb2 : c' < WB := by rw [hc']; exact mulAdd_hi hEb Hf.out Hc1.out
      have C1 := Lib.hid (mulAdd_same E f c p c' hEb Hf.out Hc1.out hp hc')
      have hsum1 : E * f + c = p + c' * WB := by rw [hp, hc', Nat.mul_comm _ WB]; exact (Nat.mod_add_div _ _).symm
      obtain ⟨d', hd'⟩ : ∃ d', d' = (o + WB - p - bo) % WB := ⟨_, rfl⟩
      obtain ⟨bo', hbo'⟩ : ∃ bo', bo' = if o < p + bo then 1 else 0 := ⟨_, rfl⟩
      have hd2 : d' < WB := by rw [hd']; exact Nat.mod_lt _ (by omega)
      have hb2 : bo' ≤ 1 := by rw [hbo']; split <;> omega
      have hsum2 : d' + p + bo = o + bo' * WB := by rw [hd', hbo']; exact Step.borrow hob hpb hb1
      have hsub : ∀ W, (callFunc 77 #[.int .u64 (o : Nat), .int .u64 (p : Nat), .int .u64 (bo : Nat)]).run Tryd.prog W = .ok (.value (.tuple #[.int .u64 (d' : Nat), .int .u64 (bo' : Nat)])) W := fun W => by rw [hd', hbo']; exact Tryd.sub64_run o p bo hb1 W
      have hnew : val WB (ys.set k d') + f * (y % WB ^ (k + 1)) = val WB xs + (c' + bo') * WB ^ (k + 1) := by
        rw [mod_pow_succ WB y k h2, ← hE]
        exact put_sub hkl2 ho Hval.out hsum1 hsum2
      have Hnew := Lib.hid hnew; clear hnew
      have Hrow2 := Lib.hid (Hrow.out.set k hkl2 d')
      have Hwr2 := Lib.hid (Hwr.out.setCell (i := off + k) (by omega) (by omega) (.int .u64 (d' : Nat)))
      have Hd2 := Lib.hid hd2; clear hd2
      have Hcb2 := Lib.hid hcb2; clear hcb2
      have Hb2 := Lib.hid hb2; clear hb2
      clear ho hE hd' hbo' hp hc' hsum1 hsum2 hob hEb hpb hkl2
      go_wp2_with (go_at_call 71; refine (C1.out _).mono ?_; rintro e w' ⟨rfl, rfl⟩)
      go_roundw
      case rel => exact ⟨k + 1, c', bo', ys.set k d', rfl, rfl, by go_num, by omega, Hcb2.out, Hb2.out, by rw [List.length_set]; exact Hlen.out, Hdig.out.put _ Hd2.out, Hnew.out, Hrow2.out, Hwr2.out⟩
      case measure => simp [intOf]; omega
    · obtain rfl : k = lb := by omega
      have hval := Hval.out
      rw [mod_pow_ln WB y k h2 (by rw [← Hlb.out]; omega)] at hval
      have Hval2 := Lib.hid hval; clear hval
      clear hk
      go_wp2_with fail
      go_loopw [7, 8, 12] (fun cv bv i wr => ∃ (j c bo : Nat) (ys : List Nat), cv = .int .u64 (c : Nat) ∧ bv = .int .u64 (bo : Nat) ∧ i = .int .i64 (j : Nat) ∧ j ≤ la ∧ c < WB ∧ bo ≤ 1 ∧ ys.length = la ∧ Dig WB ys ∧ val WB ys + f * y = val WB xs + (c + bo) * WB ^ j ∧ RowW 64 wr g off ys ∧ Wrote g off (off + la) w wr) (fun _ _ i _ => la - (intOf i).toNat)
      case atStart => exact ⟨k, c, bo, ys, rfl, rfl, rfl, by omega, Hc1.out, hb1, Hlen.out, Hdig.out, Hval2.out, Hrow.out, Hwr.out⟩
      case round =>
        clear Hc1 hb1 Hlen Hdig Hval Hrow Hwr Hval2
        obtain ⟨j, c, bo, ys, rfl, rfl, rfl, hjl, hc1, hb1, hlen, hdig, hval, hrow, hwr⟩ := hrel
        have Hlen := Lib.hid hlen; clear hlen
        have Hdig := Lib.hid hdig; clear hdig
        have Hval := Lib.hid hval; clear hval
        have Hrow := Lib.hid hrow; clear hrow
        have Hwr := Lib.hid hwr; clear hwr
        have Hc1 := Lib.hid hc1; clear hc1
        by_cases hgo : j < la ∧ (c ≠ 0 ∨ bo ≠ 0)
        · obtain ⟨hj, hnz⟩ := hgo
          obtain ⟨o, ho⟩ : ∃ o, o = ys.getD j 0 := ⟨_, rfl⟩
          have hkl2 : j < ys.length := by rw [Hlen.out]; omega
          have hcA : wr.cell? ⟨g, off + j, none⟩ = some (.int .u64 (o : Nat)) := by rw [ho]; exact Hrow.out.cell hkl2
          have hfA : wr.frozen? ⟨g, off + j, none⟩ = false := Hrow.out.free _
          have hob : o < WB := by rw [ho]; exact getD_below (by omega) Hdig.out _
          obtain ⟨d', hd'⟩ : ∃ d', d' = (o + WB - c - bo) % WB := ⟨_, rfl⟩
          obtain ⟨bo', hbo'⟩ : ∃ bo', bo' = if o < c + bo then 1 else 0 := ⟨_, rfl⟩
          have hd2 : d' < WB := by rw [hd']; exact Nat.mod_lt _ (by omega)
          have hb2 : bo' ≤ 1 := by rw [hbo']; split <;> omega
          have hsum2 : d' + c + bo = o + bo' * WB := by rw [hd', hbo']; exact Step.borrow hob Hc1.out hb1
          have hsub : ∀ W, (callFunc 77 #[.int .u64 (o : Nat), .int .u64 (c : Nat), .int .u64 (bo : Nat)]).run Tryd.prog W = .ok (.value (.tuple #[.int .u64 (d' : Nat), .int .u64 (bo' : Nat)])) W := fun W => by rw [hd', hbo']; exact Tryd.sub64_run o c bo hb1 W
          have Hnew := Lib.hid (put_rest hkl2 ho Hval.out hsum2)
          have Hrow2 := Lib.hid (Hrow.out.set j hkl2 d')
          have Hwr2 := Lib.hid (Hwr.out.setCell (i := off + j) (by omega) (by omega) (.int .u64 (d' : Nat)))
          have Hd2 := Lib.hid hd2; clear hd2
          have Hb2 := Lib.hid hb2; clear hb2
          clear ho hd' hbo' hsum2 hob hkl2
          by_cases hc0 : c = 0
          · have hb0 : ((bo : Int) != 0) = true := by rw [bne_iff_ne]; omega
            have hc00 : ((c : Int) != 0) = false := by simp [hc0]
            clear hnz hc0
            go_wp2_with fail
            go_roundw
            case rel => exact ⟨j + 1, 0, bo', ys.set j d', rfl, rfl, by go_num, by omega, by omega, Hb2.out, by rw [List.length_set]; exact Hlen.out, Hdig.out.put _ Hd2.out, Hnew.out, Hrow2.out, Hwr2.out⟩
            case measure => simp [intOf]; omega
          · have hc00 : ((c : Int) != 0) = true := by rw [bne_iff_ne]; omega
            clear hnz hc0
            go_wp2_with fail
            go_roundw
            case rel => exact ⟨j + 1, 0, bo', ys.set j d', rfl, rfl, by go_num, by omega, by omega, Hb2.out, by rw [List.length_set]; exact Hlen.out, Hdig.out.put _ Hd2.out, Hnew.out, Hrow2.out, Hwr2.out⟩
            case measure => simp [intOf]; omega
        · have hfin : c + bo < WB ∧ val WB ys + f * y = val WB xs + (c + bo) * WB ^ la := by
            by_cases hj : j < la
            · have hc0 : c = 0 := by omega
              have hb0 : bo = 0 := by omega
              subst hc0; subst hb0
              exact ⟨by omega, by have := Hval.out; simpa using this⟩
            · obtain rfl : j = la := by omega
              refine ⟨debt_lt Hf.out Hylt.out ?_ Hval.out, Hval.out⟩
              have := val_lt WB ys Hdig.out
              rwa [Hlen.out] at this
          have hw : IntKind.u64.wrap ((c : Int) + (bo : Int)) = ((c + bo : Nat) : Int) := by
            have := hfin.1
            rw [IntWalk.u64_in _ (by unfold WB at this; omega)]; omega
          have Hw := Lib.hid hw; clear hw
          have Hfin := Lib.hid hfin; clear hfin
          have hpost : ∀ z : Int, z = ((c + bo : Nat) : Int) → (∃ xs' t, Ending.returned (.int .u64 z) = .returned (.int .u64 (t : Nat)) ∧ t < WB ∧ xs'.length = la ∧ Dig WB xs' ∧ val WB xs' + f * y = val WB xs + t * WB ^ la ∧ RowW 64 wr g off xs') ∧ Wrote g off (off + la) w wr := fun z hz => ⟨⟨ys, c + bo, by rw [hz], Hfin.out.1, Hlen.out, Hdig.out, Hfin.out.2, Hrow.out⟩, Hwr.out⟩
          have Hpost := Lib.hid hpost; clear hpost
          by_cases hj : j < la
          · obtain ⟨rfl, rfl⟩ : c = 0 ∧ bo = 0 := by omega
            clear hgo
            go_wp2_with fail
            go_ret
            exact Hpost.out _ (by first | rfl | simp)
          · clear hgo
            have hjd : decide ((j : Int) < (la : Int)) = false := by rw [decide_eq_false_iff_not]; omega
            go_wp2_with fail
            go_ret
            exact Hpost.out _ (by first | exact Hw.out | simp)

end Go.Proofs.YtbcckgofoknmbaaDoor
