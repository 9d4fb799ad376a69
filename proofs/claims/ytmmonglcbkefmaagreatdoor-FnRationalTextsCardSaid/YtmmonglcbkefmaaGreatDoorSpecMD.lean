/-
  The model's MulRat and DivRat, whatever the two Rats.
-/
import Derived.Test.YtmmonglcbkefmaaGreatDoorImplSum
namespace Go.Proofs.YtmmonglcbkefmaaGreatDoor
open Go.RowKit Num

theorem mulO_low (b1 : Bool) (n1 d1 : Nat) (b2 : Bool) (n2 d2 : Nat) (p1 : 0 < d1) (p2 : 0 < d2) (hS : ln 10000 (n1 * n2) ≤ 549755813888) (hD : ln 10000 (d1 * d2) ≤ 549755813888) :
    LowQ (mulO b1 n1 d1 b2 n2 d2).1 (mulO b1 n1 d1 b2 n2 d2).2.1 (mulO b1 n1 d1 b2 n2 d2).2.2 := by
  have hp := Nat.mul_pos p1 p2
  unfold mulO
  refine ⟨low_pos hp, low_gcd hp, fun h => ?_, ?_, ?_⟩
  · simp only [Bool.and_eq_true, decide_eq_true_eq] at h
    exact low_num h.2 hp
  · exact Nat.le_trans (ln_mono 10000 _ _ (by omega) (Nat.div_le_self _ _)) hS
  · exact Nat.le_trans (ln_mono 10000 _ _ (by omega) (Nat.div_le_self _ _)) hD

theorem specMul_any (b1 : Bool) (x1 y1 : ByteArray) (b2 : Bool) (x2 y2 : ByteArray) (w : World) (hx1 : x1.size ≤ 9223372036854775807) (hy1 : y1.size ≤ 9223372036854775807) (hx2 : x2.size ≤ 9223372036854775807) (hy2 : y2.size ≤ 9223372036854775807) :
    Calls Tryz.prog 10 #[.agg #[.bool b1, .string x1, .string y1], .agg #[.bool b2, .string x2, .string y2]] w fun e w' => e = .returned (opRes b1 x1 y1 b2 x2 y2 (mulO b1 (numOf x1) (numOf y1) b2 (numOf x2) (numOf y2))) ∧ Below w.heap.size w w' := by
  unfold opRes
  by_cases h : (validR b1 x1 y1 && validR b2 x2 y2) = true
  · rw [if_pos h]
    have h' : validR b1 x1 y1 = true ∧ validR b2 x2 y2 = true := by simpa using h
    obtain ⟨m1, m2, m3, m4⟩ := validR_num h'.1
    obtain ⟨m5, m6, m7, m8⟩ := validR_num h'.2
    have q1 := num_lt_room m1
    have q2 := num_lt_room m2
    have q3 := num_lt_room m5
    have q4 := num_lt_room m6
    have lp := ln_num2 m1 m5
    have lD := ln_num2 m2 m6
    exact specMul_yes b1 x1 y1 b2 x2 y2 w hx1 hy1 hx2 hy2 h'.1 h'.2 _ _ _ (mulO_low b1 _ _ b2 _ _ (by omega) (by omega) (by omega) (by omega))
      (fun v1 v2 v3 v4 W g1 g2 g3 g4 => mulQ_any b1 b2 v1 v2 v3 v4 _ _ _ _ W g1 g2 g3 g4 (by omega) (by omega) (by omega) (by omega) _ _ rfl rfl (Nat.mul_pos (by omega) (by omega)) (by omega) (by omega) _ rfl)
  · rw [if_neg h]
    refine specMul_no b1 x1 y1 b2 x2 y2 w hx1 hy1 hx2 hy2 ?_
    cases h1 : validR b1 x1 y1 <;> cases h2 : validR b2 x2 y2 <;> simp_all

/-- What DivRat answers. -/
def divRes (b1 : Bool) (x1 y1 : ByteArray) (b2 : Bool) (x2 y2 : ByteArray) : Value :=
  if (validR b1 x1 y1 && validR b2 x2 y2 && decide (0 < numOf x2)) = true then ratRes (mulO b1 (numOf x1) (numOf y1) b2 (numOf y2) (numOf x2)).1 (mulO b1 (numOf x1) (numOf y1) b2 (numOf y2) (numOf x2)).2.1 (mulO b1 (numOf x1) (numOf y1) b2 (numOf y2) (numOf x2)).2.2 else noRat

theorem divRes_shape (b1 : Bool) (x1 y1 : ByteArray) (b2 : Bool) (x2 y2 : ByteArray) : ∃ b x y c, divRes b1 x1 y1 b2 x2 y2 = .tuple #[.agg #[.bool b, .string x, .string y], .bool c] := by
  unfold divRes
  split
  · exact ratRes_shape _ _ _
  · exact ⟨_, _, _, _, rfl⟩

/-- A numeral is "0" exactly if it reads as 0. -/
theorem zero_text {s : ByteArray} (h : isNum s = true) : (s.toList == [48]) = decide (numOf s = 0) := by
  unfold isNum at h
  obtain ⟨⟨g1, g2⟩, gd, gz⟩ := of_decide_eq_true h
  have key : numOf s = 0 ↔ s.size = 1 ∧ byt s 0 = 48 := by
    unfold numOf
    have h0 := gd 0 (by omega)
    rw [Read.rd_small (dgt s) s.size 0 (by omega) (by omega) (by
      rcases gz with e | e
      · left; unfold dgt; omega
      · right; exact e)]
    unfold dgt
    constructor
    · rintro ⟨e, k⟩; exact ⟨e, by omega⟩
    · rintro ⟨e, k⟩; exact ⟨e, by omega⟩
  rw [Bool.eq_iff_iff, beq_iff_eq, decide_eq_true_eq, list_zero, key]

set_option maxRecDepth 100000 in
set_option maxHeartbeats 1600000 in
theorem specDiv_zero (b1 : Bool) (x1 y1 : ByteArray) (b2 : Bool) (x2 y2 : ByteArray) (w : World) (hx1 : x1.size ≤ 9223372036854775807) (hy1 : y1.size ≤ 9223372036854775807) (hx2 : x2.size ≤ 9223372036854775807) (hy2 : y2.size ≤ 9223372036854775807) (h1 : validR b1 x1 y1 = true) (h2 : validR b2 x2 y2 = true) (hz0 : (x2.toList == [48]) = true) :
    Calls Tryz.prog 14 #[.agg #[.bool b1, .string x1, .string y1], .agg #[.bool b2, .string x2, .string y2]] w fun e w' => e = .returned noRat ∧ Below w.heap.size w w' := by
  have C1 : Hid (∀ W, _) := Lib.hid fun W => validS_any b1 x1 y1 W hx1 hy1
  have C2 : Hid (∀ W, _) := Lib.hid fun W => validS_any b2 x2 y2 W hx2 hy2
  rw [h1] at C1
  rw [h2] at C2
  clear h1 h2 hx1 hy1 hx2 hy2
  have hA := ((Box.new w 24 #[.bool b1, .string x1, .string y1]).alloc (.cells #[.bool b2, .string x2, .string y2] 24)).alloc (.cells #[.bool false, .string ⟨#[]⟩, .string ⟨#[]⟩] 24)
  have hQ := (Box.new (w.alloc (.cells #[.bool b1, .string x1, .string y1] 24)) 24 #[.bool b2, .string x2, .string y2]).alloc (.cells #[.bool false, .string ⟨#[]⟩, .string ⟨#[]⟩] 24)
  have hR := Box.new ((w.alloc (.cells #[.bool b1, .string x1, .string y1] 24)).alloc (.cells #[.bool b2, .string x2, .string y2] 24)) 24 #[.bool false, .string ⟨#[]⟩, .string ⟨#[]⟩]
  have hB := (((Below.refl w.heap.size w).alloc (Nat.le_refl _) (.cells #[.bool b1, .string x1, .string y1] 24)).alloc (by simp) (.cells #[.bool b2, .string x2, .string y2] 24)).alloc (by simp; omega) (.cells #[.bool false, .string ⟨#[]⟩, .string ⟨#[]⟩] 24)
  have e0 : ∀ (W : World) (o : Obj), (W.alloc o).heap.size = W.heap.size + 1 := fun W o => by simp
  rw [e0] at hQ
  rw [e0, e0] at hR
  clear e0
  obtain ⟨r0', r1', r2', _, _, _⟩ := hA.three
  obtain ⟨s0, s1, s2, _, _, _⟩ := hQ.three
  go_enter Tryz.func14, Tryz.ntmps14
  go_wp2_with (first
    | (go_at_call_of 45 (Value.agg #[.bool b1, .string x1, .string y1]); refine (C1.out _).mono ?_; rintro e w1 ⟨rfl, hb⟩; replace hB := hB.trans (hb.mono hB.size); replace hQ := hQ.below hb hQ.lt; replace hR := hR.below hb hR.lt; clear hb s0 s1 s2; obtain ⟨s0, s1, s2, _, _, _⟩ := hQ.three)
    | (go_at_call_of 45 (Value.agg #[.bool b2, .string x2, .string y2]); refine (C2.out _).mono ?_; rintro e w2 ⟨rfl, hb⟩; replace hB := hB.trans (hb.mono hB.size); replace hQ := hQ.below hb hQ.lt; replace hR := hR.below hb hR.lt; clear s0 s1 s2; obtain ⟨s0, s1, s2, _, _, _⟩ := hQ.three; obtain ⟨t0, t1, t2, f0, f1, f2⟩ := hR.three; clear hb))
  obtain ⟨m0, m1, m2⟩ := hR.put3 (.bool false) (.string ⟨#[]⟩) (.string ⟨#[]⟩)
  refine bodyPost_ret (v := noRat) (by simp [results, Tryz.results14, go_sem, noRat, m0, m1, m2]; done) rfl ⟨rfl, ?_⟩
  exact below_put3 hB (by omega) _ _ _

theorem specDiv_any (b1 : Bool) (x1 y1 : ByteArray) (b2 : Bool) (x2 y2 : ByteArray) (w : World) (hx1 : x1.size ≤ 9223372036854775807) (hy1 : y1.size ≤ 9223372036854775807) (hx2 : x2.size ≤ 9223372036854775807) (hy2 : y2.size ≤ 9223372036854775807) :
    Calls Tryz.prog 14 #[.agg #[.bool b1, .string x1, .string y1], .agg #[.bool b2, .string x2, .string y2]] w fun e w' => e = .returned (divRes b1 x1 y1 b2 x2 y2) ∧ Below w.heap.size w w' := by
  unfold divRes
  by_cases h : (validR b1 x1 y1 && validR b2 x2 y2) = true
  · rw [h, Bool.true_and]
    have h' : validR b1 x1 y1 = true ∧ validR b2 x2 y2 = true := by simpa using h
    obtain ⟨m1, m2, m3, m4⟩ := validR_num h'.1
    obtain ⟨m5, m6, m7, m8⟩ := validR_num h'.2
    have hz := zero_text m5
    by_cases hp : 0 < numOf x2
    · rw [if_pos (decide_eq_true hp)]
      rw [decide_eq_false (by omega)] at hz
      have q1 := num_lt_room m1
      have q2 := num_lt_room m2
      have q3 := num_lt_room m5
      have q4 := num_lt_room m6
      have lp := ln_num2 m1 m6
      have lD := ln_num2 m2 m5
      exact specDiv_yes b1 x1 y1 b2 x2 y2 w hx1 hy1 hx2 hy2 h'.1 h'.2 hz _ _ _ (mulO_low b1 _ _ b2 _ _ (by omega) hp (by omega) (by omega))
        (fun v1 v2 v3 v4 W g1 g2 g3 g4 => divQ_any b1 b2 v1 v2 v3 v4 _ _ _ _ W g1 g2 g3 g4 (by omega) (by omega) (by omega) (by omega) _ _ rfl rfl (Nat.mul_pos (by omega) hp) (by omega) (by omega) _ rfl)
    · rw [if_neg (by rw [decide_eq_true_eq]; exact hp)]
      rw [decide_eq_true (by omega)] at hz
      exact specDiv_zero b1 x1 y1 b2 x2 y2 w hx1 hy1 hx2 hy2 h'.1 h'.2 hz
  · rw [if_neg (by intro hc; rw [Bool.and_eq_true] at hc; exact h hc.1)]
    refine specDiv_no b1 x1 y1 b2 x2 y2 w hx1 hy1 hx2 hy2 ?_
    cases h1 : validR b1 x1 y1 <;> cases h2 : validR b2 x2 y2 <;> simp_all

end Go.Proofs.YtmmonglcbkefmaaGreatDoor
