/-
  Several texts in one: CompS, LawComp.
-/
import Derived.Test.YtmmonglcbkefmaaGreatDoorSumMulQ
import Derived.Test.YtmmonglcbkefmaaGreatDoorCompW
import Derived.Test.YtmmonglcbkefmaaGreatDoorFracLaw
/-
  The model's CompareRat.
-/
namespace Go.Proofs.YtmmonglcbkefmaaGreatDoor
open Go.RowKit Num

theorem num_lt_room {s : ByteArray} (h : isNum s = true) : ln 10000 (numOf s) ≤ 137438953472 := by
  have h1 : (10 : Nat) ^ 120 = 10000 ^ 30 := by decide
  exact Nat.le_trans (ln_le_of_lt 10000 _ 30 (by omega) (by rw [← h1]; exact numOf_lt h)) (by omega)

set_option maxRecDepth 100000 in
set_option maxHeartbeats 1600000 in
theorem specCompare_no (b1 : Bool) (x1 y1 : ByteArray) (b2 : Bool) (x2 y2 : ByteArray) (w : World) (hx1 : x1.size ≤ 9223372036854775807) (hy1 : y1.size ≤ 9223372036854775807) (hx2 : x2.size ≤ 9223372036854775807) (hy2 : y2.size ≤ 9223372036854775807) (h : validR b1 x1 y1 = false ∨ validR b2 x2 y2 = false) :
    Calls Tryz.prog 16 #[.agg #[.bool b1, .string x1, .string y1], .agg #[.bool b2, .string x2, .string y2]] w fun e w' => e = .returned (.tuple #[.int .i64 0, .bool false]) ∧ Below w.heap.size w w' := by
  have C1 : Hid (∀ W, _) := Lib.hid fun W => validS_any b1 x1 y1 W hx1 hy1
  have C2 : Hid (∀ W, _) := Lib.hid fun W => validS_any b2 x2 y2 W hx2 hy2
  obtain ⟨r1, hr1⟩ : ∃ r, r = validR b1 x1 y1 := ⟨_, rfl⟩
  obtain ⟨r2, hr2⟩ : ∃ r, r = validR b2 x2 y2 := ⟨_, rfl⟩
  rw [← hr1] at C1 h
  rw [← hr2] at C2 h
  clear hr1 hr2 hx1 hy1 hx2 hy2
  have hA := (Box.new w 24 #[.bool b1, .string x1, .string y1]).alloc (.cells #[.bool b2, .string x2, .string y2] 24)
  have hQ := Box.new (w.alloc (.cells #[.bool b1, .string x1, .string y1] 24)) 24 #[.bool b2, .string x2, .string y2]
  have hB := ((Below.refl w.heap.size w).alloc (Nat.le_refl _) (.cells #[.bool b1, .string x1, .string y1] 24)).alloc (by simp) (.cells #[.bool b2, .string x2, .string y2] 24)
  have e0 : ∀ (W : World) (o : Obj), (W.alloc o).heap.size = W.heap.size + 1 := fun W o => by simp
  rw [e0] at hQ
  clear e0
  obtain ⟨r0', r1', r2', _, _, _⟩ := hA.three
  obtain ⟨s0, s1, s2, _, _, _⟩ := hQ.three
  cases r1 with
  | false =>
    clear h
    go_enter Tryz.func16, Tryz.ntmps16
    go_wp2_with (go_at_call_of 45 (Value.agg #[.bool b1, .string x1, .string y1]); refine (C1.out _).mono ?_; rintro e w1 ⟨rfl, hb⟩; have HB := Lib.hid (hB.trans (hb.mono hB.size)); clear hb)
    refine bodyPost_ret (v := .tuple #[.int .i64 0, .bool false]) (by simp [results, Tryz.results16, go_sem]; done) rfl ⟨rfl, HB.out⟩
  | true =>
    obtain rfl : r2 = false := by simpa using h
    clear h
    go_enter Tryz.func16, Tryz.ntmps16
    go_wp2_with (first
      | (go_at_call_of 45 (Value.agg #[.bool b1, .string x1, .string y1]); refine (C1.out _).mono ?_; rintro e w1 ⟨rfl, hb⟩; replace hB := hB.trans (hb.mono hB.size); replace hQ := hQ.below hb hQ.lt; clear hb s0 s1 s2; obtain ⟨s0, s1, s2, _, _, _⟩ := hQ.three)
      | (go_at_call_of 45 (Value.agg #[.bool b2, .string x2, .string y2]); refine (C2.out _).mono ?_; rintro e w2 ⟨rfl, hb⟩; replace hB := hB.trans (hb.mono hB.size); clear hb))
    refine bodyPost_ret (v := .tuple #[.int .i64 0, .bool false]) (by simp [results, Tryz.results16, go_sem]; done) rfl ⟨rfl, hB⟩

set_option maxRecDepth 100000 in
set_option maxHeartbeats 1600000 in
theorem specCompare_yes (b1 : Bool) (x1 y1 : ByteArray) (b2 : Bool) (x2 y2 : ByteArray) (w : World) (hx1 : x1.size ≤ 9223372036854775807) (hy1 : y1.size ≤ 9223372036854775807) (hx2 : x2.size ≤ 9223372036854775807) (hy2 : y2.size ≤ 9223372036854775807) (h1 : validR b1 x1 y1 = true) (h2 : validR b2 x2 y2 = true) (c : Int) (hc : c = cmpR b1 (numOf x1) (numOf y1) b2 (numOf x2) (numOf y2)) :
    Calls Tryz.prog 16 #[.agg #[.bool b1, .string x1, .string y1], .agg #[.bool b2, .string x2, .string y2]] w fun e w' => e = .returned (.tuple #[.int .i64 c, .bool true]) ∧ Below w.heap.size w w' := by
  have C1 : Hid (∀ W, _) := Lib.hid fun W => validS_any b1 x1 y1 W hx1 hy1
  have C2 : Hid (∀ W, _) := Lib.hid fun W => validS_any b2 x2 y2 W hx2 hy2
  rw [h1] at C1
  rw [h2] at C2
  obtain ⟨m1, m2, m3, m4⟩ := validR_num h1
  obtain ⟨k1, k2, k3, k4⟩ := validR_num h2
  have CQ1 : Hid (∀ W, _) := Lib.hid fun W => toQ_any b1 x1 y1 W m1 m2
  have CQ2 : Hid (∀ W, _) := Lib.hid fun W => toQ_any b2 x2 y2 W k1 k2
  have CC : Hid (∀ (v1 v2 v3 v4 : Value) (W : World), Nums 3 .i64 10000 W v1 (numOf x1) → Nums 3 .i64 10000 W v2 (numOf y1) → Nums 3 .i64 10000 W v3 (numOf x2) → Nums 3 .i64 10000 W v4 (numOf y2) → _) :=
    Lib.hid fun v1 v2 v3 v4 W g1 g2 g3 g4 => cmpQ_any b1 b2 v1 v2 v3 v4 (numOf x1) (numOf y1) (numOf x2) (numOf y2) W g1 g2 g3 g4 m4 k4 (by omega) (by omega) (num_lt_room m1) (num_lt_room m2) (num_lt_room k1) (num_lt_room k2)
  rw [← hc] at CC
  clear h1 h2 hc m1 m2 m3 m4 k1 k2 k3 k4 hx1 hy1 hx2 hy2
  have hA := (Box.new w 24 #[.bool b1, .string x1, .string y1]).alloc (.cells #[.bool b2, .string x2, .string y2] 24)
  have hQ := Box.new (w.alloc (.cells #[.bool b1, .string x1, .string y1] 24)) 24 #[.bool b2, .string x2, .string y2]
  have hB := ((Below.refl w.heap.size w).alloc (Nat.le_refl _) (.cells #[.bool b1, .string x1, .string y1] 24)).alloc (by simp) (.cells #[.bool b2, .string x2, .string y2] 24)
  have e0 : ∀ (W : World) (o : Obj), (W.alloc o).heap.size = W.heap.size + 1 := fun W o => by simp
  rw [e0] at hQ
  clear e0
  obtain ⟨r0', r1', r2', _, _, _⟩ := hA.three
  obtain ⟨s0, s1, s2, _, _, _⟩ := hQ.three
  go_enter Tryz.func16, Tryz.ntmps16
  go_upto_region 3 with (first
    | (go_at_call_of 45 (Value.agg #[.bool b1, .string x1, .string y1]); refine (C1.out _).mono ?_; rintro e w1 ⟨rfl, hb⟩; replace hB := hB.trans (hb.mono hB.size); replace hA := hA.below hb hA.lt; replace hQ := hQ.below hb hQ.lt; clear hb s0 s1 s2 r0' r1' r2'; obtain ⟨s0, s1, s2, _, _, _⟩ := hQ.three)
    | (go_at_call_of 45 (Value.agg #[.bool b2, .string x2, .string y2]); refine (C2.out _).mono ?_; rintro e w2 ⟨rfl, hb⟩; replace hB := hB.trans (hb.mono hB.size); replace hA := hA.below hb hA.lt; replace hQ := hQ.below hb hQ.lt; clear hb s0 s1 s2))
  have HB := Lib.hid hB
  clear hB C1 C2
  go_region_held3 (fun w' => w'.cell? ⟨w.heap.size, 0, none⟩ = some (.bool b1) ∧ w'.cell? ⟨w.heap.size, 1, none⟩ = some (.string x1) ∧ w'.cell? ⟨w.heap.size, 2, none⟩ = some (.string y1) ∧ w'.cell? ⟨w.heap.size + 1, 0, none⟩ = some (.bool b2) ∧ w'.cell? ⟨w.heap.size + 1, 1, none⟩ = some (.string x2) ∧ w'.cell? ⟨w.heap.size + 1, 2, none⟩ = some (.string y2) ∧ Below w2.heap.size w2 w')
    ((refine hold6 hA hQ ?_; first | exact (Below.refl _ w2).drew | (refine below_step (hold6_below (by assumption)) ?_; assumption)))
    (first
      | (go_at_call_of 48 (Value.agg #[.bool b1, .string x1, .string y1]); refine (CQ1.out _).mono ?_; rintro e w3 ⟨⟨v, rfl, vn1, vd1, rfl, hn1, hd1⟩, hb3⟩; have Hn1 := Lib.hid hn1; have Hd1 := Lib.hid hd1; clear hn1 hd1)
      | (go_at_call_of 48 (Value.agg #[.bool b2, .string x2, .string y2]); refine (CQ2.out _).mono ?_; rintro e w4 ⟨⟨v, rfl, vn2, vd2, rfl, hn2, hd2⟩, hb4⟩; have Hn2 := Lib.hid hn2; have Hd2 := Lib.hid hd2; clear hn2 hd2)
      | (go_at_call 57; refine (CC.out vn1 vd1 vn2 vd2 _ (by first | exact Hn1.out | exact Hn1.out.below hb4 (Nat.le_refl _)) (by first | exact Hd1.out | exact Hd1.out.below hb4 (Nat.le_refl _)) (by first | exact Hn2.out | exact Hn2.out.below hb3 (Nat.le_refl _)) (by first | exact Hd2.out | exact Hd2.out.below hb3 (Nat.le_refl _))).mono ?_; rintro e w5 ⟨rfl, hb5⟩))
  all_goals go_wp2_with fail
  all_goals refine bodyPost_ret (v := .tuple #[.int .i64 c, .bool true]) (by simp [results, Tryz.results16, go_sem]; done) rfl ⟨rfl, HB.out.trans ((hold6_below (by assumption)).mono HB.out.size)⟩

theorem specCompare_any (b1 : Bool) (x1 y1 : ByteArray) (b2 : Bool) (x2 y2 : ByteArray) (w : World) (hx1 : x1.size ≤ 9223372036854775807) (hy1 : y1.size ≤ 9223372036854775807) (hx2 : x2.size ≤ 9223372036854775807) (hy2 : y2.size ≤ 9223372036854775807) :
    Calls Tryz.prog 16 #[.agg #[.bool b1, .string x1, .string y1], .agg #[.bool b2, .string x2, .string y2]] w fun e w' => e = .returned (.tuple #[.int .i64 (cmpRes b1 x1 y1 b2 x2 y2), .bool (validR b1 x1 y1 && validR b2 x2 y2)]) ∧ Below w.heap.size w w' := by
  unfold cmpRes
  by_cases h : (validR b1 x1 y1 && validR b2 x2 y2) = true
  · rw [if_pos h, h]
    have h' : validR b1 x1 y1 = true ∧ validR b2 x2 y2 = true := by simpa using h
    exact specCompare_yes b1 x1 y1 b2 x2 y2 w hx1 hy1 hx2 hy2 h'.1 h'.2 _ rfl
  · rw [if_neg h, Bool.eq_false_iff.2 h]
    refine specCompare_no b1 x1 y1 b2 x2 y2 w hx1 hy1 hx2 hy2 ?_
    cases h1 : validR b1 x1 y1 <;> cases h2 : validR b2 x2 y2 <;> simp_all

end Go.Proofs.YtmmonglcbkefmaaGreatDoor
/-
  The law on CompareRat: the program answers as the model, whatever the two Rats.
-/
namespace Go.Proofs.YtmmonglcbkefmaaGreatDoor
open Go.RowKit Num

end Go.Proofs.YtmmonglcbkefmaaGreatDoor
