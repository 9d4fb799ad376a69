/-
  What the law on sums, products, differences and quotients compares. (Pure.)
-/
import Derived.Test.YtmmonglcbkefmaaGreatDoorTextP
import Derived.Test.YtmmonglcbkefmaaGreatDoorCompW
namespace Go.Proofs.YtmmonglcbkefmaaGreatDoor
open Go.RowKit Num

theorem opRes_yes {b1 : Bool} {x1 y1 : ByteArray} {b2 : Bool} {x2 y2 : ByteArray} {o : Bool × Nat × Nat} {rb : Bool} {rx ry : ByteArray} (h : opRes b1 x1 y1 b2 x2 y2 o = .tuple #[.agg #[.bool rb, .string rx, .string ry], .bool true]) :
    validR b1 x1 y1 = true ∧ validR b2 x2 y2 = true ∧ fits o.2.1 o.2.2 = true ∧ rb = o.1 ∧ rx = dec o.2.1 ∧ ry = dec o.2.2 := by
  unfold opRes at h
  split at h
  · rename_i hv
    rw [Bool.and_eq_true] at hv
    unfold ratRes at h
    split at h
    · rename_i hf
      simp [okRat] at h
      exact ⟨hv.1, hv.2, hf, h.1.symm, h.2.1.symm, h.2.2.symm⟩
    · simp [noRat] at h
  · simp [noRat] at h

theorem divRes_yes {b1 : Bool} {x1 y1 : ByteArray} {b2 : Bool} {x2 y2 : ByteArray} {rb : Bool} {rx ry : ByteArray} (h : divRes b1 x1 y1 b2 x2 y2 = .tuple #[.agg #[.bool rb, .string rx, .string ry], .bool true]) :
    validR b1 x1 y1 = true ∧ validR b2 x2 y2 = true ∧ 0 < numOf x2 ∧ fits (mulO b1 (numOf x1) (numOf y1) b2 (numOf y2) (numOf x2)).2.1 (mulO b1 (numOf x1) (numOf y1) b2 (numOf y2) (numOf x2)).2.2 = true ∧ rb = (mulO b1 (numOf x1) (numOf y1) b2 (numOf y2) (numOf x2)).1 ∧ rx = dec (mulO b1 (numOf x1) (numOf y1) b2 (numOf y2) (numOf x2)).2.1 ∧ ry = dec (mulO b1 (numOf x1) (numOf y1) b2 (numOf y2) (numOf x2)).2.2 := by
  unfold divRes at h
  split at h
  · rename_i hv
    rw [Bool.and_eq_true, Bool.and_eq_true, decide_eq_true_eq] at hv
    unfold ratRes at h
    split at h
    · rename_i hf
      simp [okRat] at h
      exact ⟨hv.1.1, hv.1.2, hv.2, hf, h.1.symm, h.2.1.symm, h.2.2.symm⟩
    · simp [noRat] at h
  · simp [noRat] at h

theorem addRes_comm (b1 : Bool) (x1 y1 : ByteArray) (b2 : Bool) (x2 y2 : ByteArray) :
    opRes b2 x2 y2 b1 x1 y1 (addO b2 (numOf x2) (numOf y2) b1 (numOf x1) (numOf y1)) = opRes b1 x1 y1 b2 x2 y2 (addO b1 (numOf x1) (numOf y1) b2 (numOf x2) (numOf y2)) := by
  unfold opRes
  rw [Bool.and_comm]
  by_cases h : (validR b1 x1 y1 && validR b2 x2 y2) = true
  · rw [if_pos h, if_pos h]
    rw [Bool.and_eq_true] at h
    rw [addO_comm _ _ _ _ _ _ (low_valid h.2).pos (low_valid h.1).pos]
  · rw [if_neg h, if_neg h]

theorem mulRes_comm (b1 : Bool) (x1 y1 : ByteArray) (b2 : Bool) (x2 y2 : ByteArray) :
    opRes b2 x2 y2 b1 x1 y1 (mulO b2 (numOf x2) (numOf y2) b1 (numOf x1) (numOf y1)) = opRes b1 x1 y1 b2 x2 y2 (mulO b1 (numOf x1) (numOf y1) b2 (numOf x2) (numOf y2)) := by
  unfold opRes
  rw [Bool.and_comm, mulO_comm]

theorem sub_back {b1 : Bool} {x1 y1 : ByteArray} {b2 : Bool} {x2 y2 : ByteArray} {rb : Bool} {rx ry : ByteArray} (h : opRes b1 x1 y1 b2 x2 y2 (addO b1 (numOf x1) (numOf y1) b2 (numOf x2) (numOf y2)) = .tuple #[.agg #[.bool rb, .string rx, .string ry], .bool true]) :
    opRes rb rx ry b2 x2 y2 (addO rb (numOf rx) (numOf ry) (!b2 && decide (0 < numOf x2)) (numOf x2) (numOf y2)) = .tuple #[.agg #[.bool b1, .string x1, .string y1], .bool true] := by
  obtain ⟨v1, v2, hf, rfl, rfl, rfl⟩ := opRes_yes h
  rw [numOf_dec, numOf_dec, add_sub _ _ _ _ _ _ (low_valid v1) (low_valid v2).pos]
  unfold opRes
  have hv : validR (addO b1 (numOf x1) (numOf y1) b2 (numOf x2) (numOf y2)).1 (dec (addO b1 (numOf x1) (numOf y1) b2 (numOf x2) (numOf y2)).2.1) (dec (addO b1 (numOf x1) (numOf y1) b2 (numOf x2) (numOf y2)).2.2) = true := validR_dec (addO_LowO _ _ _ _ _ _ (low_valid v1).pos (low_valid v2).pos) hf
  rw [hv, v2]
  exact ratRes_valid v1

theorem mul_back {b1 : Bool} {x1 y1 : ByteArray} {b2 : Bool} {x2 y2 : ByteArray} {rb : Bool} {rx ry : ByteArray} (h : divRes b1 x1 y1 b2 x2 y2 = .tuple #[.agg #[.bool rb, .string rx, .string ry], .bool true]) :
    opRes rb rx ry b2 x2 y2 (mulO rb (numOf rx) (numOf ry) b2 (numOf x2) (numOf y2)) = .tuple #[.agg #[.bool b1, .string x1, .string y1], .bool true] := by
  obtain ⟨v1, v2, hx, hf, rfl, rfl, rfl⟩ := divRes_yes h
  rw [numOf_dec, numOf_dec, div_mul _ _ _ _ _ _ (low_valid v1) (low_valid v2).pos hx]
  unfold opRes
  have hv : validR (mulO b1 (numOf x1) (numOf y1) b2 (numOf y2) (numOf x2)).1 (dec (mulO b1 (numOf x1) (numOf y1) b2 (numOf y2) (numOf x2)).2.1) (dec (mulO b1 (numOf x1) (numOf y1) b2 (numOf y2) (numOf x2)).2.2) = true := validR_dec (mulO_LowO _ _ _ _ _ _ (low_valid v1).pos hx) hf
  rw [hv, v2]
  exact ratRes_valid v1

theorem sgn_mul {a b p q : Int} (hp : 0 < p) (hq : 0 < q) (h : a * p = b * q) : sgn a = sgn b := by
  have key : ∀ {a b p q : Int}, 0 < p → 0 < q → a * p = b * q → a < 0 → b < 0 := by
    intro a b p q hp hq h ha
    have h1 : a * p < 0 := Int.mul_neg_of_neg_of_pos ha hp
    rcases Int.lt_or_le b 0 with hb | hb
    · exact hb
    · have := Int.mul_nonneg hb (Int.le_of_lt hq)
      omega
  have pos : ∀ {a b p q : Int}, 0 < p → 0 < q → a * p = b * q → 0 < a → 0 < b := by
    intro a b p q hp hq h ha
    have h1 : 0 < a * p := Int.mul_pos ha hp
    rcases Int.lt_or_le 0 b with hb | hb
    · exact hb
    · have := Int.mul_nonpos_of_nonpos_of_nonneg hb (Int.le_of_lt hq)
      omega
  have k1 := @key a b p q hp hq h
  have k2 := @key b a q p hq hp h.symm
  have k3 := @pos a b p q hp hq h
  have k4 := @pos b a q p hq hp h.symm
  unfold sgn
  split <;> split <;> (try split) <;> (try split) <;> omega

theorem cmpR_sgn (b1 : Bool) (n1 d1 : Nat) (b2 : Bool) (n2 d2 : Nat) (h1 : b1 = true → 0 < n1) (h2 : b2 = true → 0 < n2) (p1 : 0 < d1) (p2 : 0 < d2) :
    cmpR b1 n1 d1 b2 n2 d2 = sgn (zI b1 n1 * (d2 : Int) - zI b2 n2 * (d1 : Int)) := by
  have e1 := zI_mul b1 n1 d2
  have e2 := zI_mul b2 n2 d1
  rw [← e1, ← e2]
  have q1 : b1 = true → 0 < n1 * d2 := fun h => Nat.mul_pos (h1 h) p2
  have q2 : b2 = true → 0 < n2 * d1 := fun h => Nat.mul_pos (h2 h) p1
  unfold cmpR
  obtain ⟨X, hX⟩ : ∃ X, X = n1 * d2 := ⟨_, rfl⟩
  obtain ⟨Y, hY⟩ : ∃ Y, Y = n2 * d1 := ⟨_, rfl⟩
  rw [← hX] at q1 ⊢
  rw [← hY] at q2 ⊢
  cases b1 <;> cases b2 <;> simp [zI, cmpI, sgn] at q1 q2 ⊢ <;> (repeat' split) <;> omega

theorem ratOf_zero : ratOf 0 1 = .tuple #[.agg #[.bool false, .string (dec 0), .string (dec 1)], .bool true] := by
  unfold ratOf
  simp
  unfold ratRes fits
  rw [decL_small 0 (by omega), decL_small 1 (by omega)]
  rfl

/-- The order agrees with the sign of the difference. -/
theorem cmp_back {b1 : Bool} {x1 y1 : ByteArray} {b2 : Bool} {x2 y2 : ByteArray} {rb : Bool} {rx ry : ByteArray} (h : opRes b1 x1 y1 b2 x2 y2 (addO b1 (numOf x1) (numOf y1) (!b2 && decide (0 < numOf x2)) (numOf x2) (numOf y2)) = .tuple #[.agg #[.bool rb, .string rx, .string ry], .bool true]) :
    (validR b1 x1 y1 && validR b2 x2 y2) = true ∧ (validR rb rx ry && validR false (dec 0) (dec 1)) = true ∧ cmpRes rb rx ry false (dec 0) (dec 1) = cmpRes b1 x1 y1 b2 x2 y2 := by
  obtain ⟨v1, v2, hf, rfl, rfl, rfl⟩ := opRes_yes h
  have l1 := low_valid v1
  have l2 := low_valid v2
  have lo := addO_LowO b1 (numOf x1) (numOf y1) (!b2 && decide (0 < numOf x2)) (numOf x2) (numOf y2) l1.pos l2.pos
  have hv := addO_value b1 (numOf x1) (numOf y1) (!b2 && decide (0 < numOf x2)) (numOf x2) (numOf y2) l1.pos l2.pos
  rw [zI_neg] at hv
  obtain ⟨o, ho⟩ : ∃ o, o = addO b1 (numOf x1) (numOf y1) (!b2 && decide (0 < numOf x2)) (numOf x2) (numOf y2) := ⟨_, rfl⟩
  rw [← ho] at lo hv hf ⊢
  have v3 : validR o.1 (dec o.2.1) (dec o.2.2) = true := validR_dec lo hf
  have v0 : validR false (dec 0) (dec 1) = true := validR_dec (sg := false) (N := 0) (D := 1) ⟨Nat.one_pos, Nat.gcd_one_right 0, fun h => by cases h⟩ (by unfold fits; rw [decL_small 0 (by omega), decL_small 1 (by omega)]; rfl)
  refine ⟨by rw [v1, v2]; rfl, by rw [v3, v0]; rfl, ?_⟩
  unfold cmpRes
  rw [if_pos (by rw [v3, v0]; rfl), if_pos (by rw [v1, v2]; rfl), numOf_dec, numOf_dec, numOf_dec, numOf_dec]
  rw [cmpR_sgn o.1 o.2.1 o.2.2 false 0 1 lo.sign (fun h => by cases h) lo.pos Nat.one_pos, cmpR_sgn _ _ _ _ _ _ l1.sign l2.sign l1.pos l2.pos]
  refine sgn_mul (p := ((numOf y1 * numOf y2 : Nat) : Int)) (q := (o.2.2 : Int)) (Int.natCast_pos.2 (Nat.mul_pos l1.pos l2.pos)) (Int.natCast_pos.2 lo.pos) ?_
  have e : zI o.1 o.2.1 * ((1 : Nat) : Int) - zI false 0 * (o.2.2 : Int) = zI o.1 o.2.1 := by simp [zI]
  rw [e, hv, Int.neg_mul, Int.sub_eq_add_neg]

end Go.Proofs.YtmmonglcbkefmaaGreatDoor
