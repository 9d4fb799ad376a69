/-
  The law on DecimalOf: the program answers as the model, whatever the Rat and the int.
-/
import Derived.Test.YteefgmnjhlmbiaaDoorDecI
namespace Go.Proofs.YteefgmnjhlmbiaaDoor
open Go.RowKit Num

set_option maxRecDepth 100000 in
set_option maxHeartbeats 1600000 in
theorem specDec_no (b : Bool) (x y : ByteArray) (n : Int) (w : World) (hx : x.size ≤ 9223372036854775807) (hy : y.size ≤ 9223372036854775807) (h : validR b x y = false ∨ ¬ (0 ≤ n ∧ n ≤ 50)) :
    Calls Tryd.prog 37 #[.agg #[.bool b, .string x, .string y], .int .i64 n] w fun e w' => e = .returned (.tuple #[.string ⟨#[]⟩, .bool false]) ∧ Below w.heap.size w w' := by
  have C1 : Hid (∀ W, _) := Lib.hid fun W => validS_any b x y W hx hy
  have CI : Hid (∀ W, _) := Lib.hid fun W => in_any n 0 50 W
  have hA := Box.new w 26 #[.bool b, .string x, .string y]
  have hB := (Below.refl w.heap.size w).alloc (Nat.le_refl _) (.cells #[.bool b, .string x, .string y] 26)
  obtain ⟨r0, r1, r2, _, _, _⟩ := hA.three
  cases hv : validR b x y with
  | false =>
    rw [hv] at C1
    clear h hv hx hy
    go_enter Tryd.func37, Tryd.ntmps37
    go_wp2_with (go_at_call 39; refine (C1.out _).mono ?_; rintro e w1 ⟨rfl, hb⟩; replace hB := hB.trans (hb.mono hB.size); clear hb)
    go_ret2
    exact ⟨rfl, hB⟩
  | true =>
    rw [hv] at C1
    have hn : ¬ (0 ≤ n ∧ n ≤ 50) := by
      rcases h with h | h
      · rw [hv] at h; cases h
      · exact h
    rw [decide_eq_false hn] at CI
    clear h hv hx hy hn
    go_enter Tryd.func37, Tryd.ntmps37
    go_wp2_with (first
      | (go_at_call 39; refine (C1.out _).mono ?_; rintro e w1 ⟨rfl, hb⟩; replace hB := hB.trans (hb.mono hB.size); clear hb)
      | (go_at_call 58; refine (CI.out _).mono ?_; rintro e w2 ⟨rfl, rfl⟩))
    go_ret2
    exact ⟨rfl, hB⟩

theorem specDec_any (b : Bool) (x y : ByteArray) (n : Int) (w : World) (hx : x.size ≤ 9223372036854775807) (hy : y.size ≤ 9223372036854775807) :
    Calls Tryd.prog 37 #[.agg #[.bool b, .string x, .string y], .int .i64 n] w fun e w' => e = .returned (decRes b x y n) ∧ Below w.heap.size w w' := by
  unfold decRes
  by_cases h : (validR b x y && decide (0 ≤ n ∧ n ≤ 50)) = true
  · rw [if_pos h]
    rw [Bool.and_eq_true, decide_eq_true_eq] at h
    obtain ⟨k, rfl⟩ : ∃ k : Nat, n = (k : Nat) := ⟨n.toNat, by omega⟩
    rw [Int.toNat_natCast]
    exact specDec_yes b x y k w (by omega) hx hy h.1
  · rw [if_neg h]
    refine specDec_no b x y n w hx hy ?_
    by_cases hn : 0 ≤ n ∧ n ≤ 50
    · left
      rw [decide_eq_true hn, Bool.and_true] at h
      simpa using h
    · exact .inr hn

set_option maxRecDepth 100000 in
set_option maxHeartbeats 3200000 in
theorem implDec_no (b : Bool) (x y : ByteArray) (n : Int) (w : World) (hx : x.size ≤ 9223372036854775807) (hy : y.size ≤ 9223372036854775807) (hU : UnitB w) (hT : Tab64 w) (h : validR b x y = false ∨ n < 0 ∨ 50 < n) :
    Calls Tryd.prog 38 #[.agg #[.bool b, .string x, .string y], .int .i64 n] w fun e w' => e = .returned (.tuple #[.string ⟨#[]⟩, .bool false]) ∧ Below w.heap.size w w' := by
  have CF : Hid (∀ W, Below w.heap.size w W → _) := Lib.hid fun W hW => fracOf_all b x y W hx hy (hU.below hW) (hT.below hW)
  have hA := Box.new w 26 #[.bool b, .string x, .string y]
  have hB := (Below.refl w.heap.size w).alloc (Nat.le_refl _) (.cells #[.bool b, .string x, .string y] 26)
  obtain ⟨r0, r1, r2, _, _, _⟩ := hA.three
  clear hU hT hx hy
  cases hv : validR b x y with
  | false =>
    rw [hv] at CF
    clear h hv
    go_enter Tryd.func38, Tryd.ntmps38
    go_wp2_with (go_at_call 40; refine (CF.out _ hB).mono ?_; rintro e w1 ⟨hh, hb⟩; rw [if_neg (by decide)] at hh; unfold noFrac at hh; obtain rfl := hh; replace hB := (hB.trans (hb.mono hB.size)).alloc (hB.trans (hb.mono hB.size)).size (.cells #[.bool false, .slice none 0 0, .slice none 0 0] 47); clear hb)
    go_ret2
    exact ⟨rfl, hB⟩
  | true =>
    rw [hv] at CF
    have hn : n < 0 ∨ (0 ≤ n ∧ 50 < n) := by
      rcases h with h | h | h
      · rw [hv] at h; cases h
      · exact .inl h
      · exact .inr ⟨by omega, h⟩
    clear h hv
    rcases hn with hn | ⟨hn0, hn⟩
    · have hd : decide (n < 0) = true := decide_eq_true hn
      go_enter Tryd.func38, Tryd.ntmps38
      go_wp2_with (go_at_call 40; refine (CF.out _ hB).mono ?_; rintro e w1 ⟨hh, hb⟩; rw [if_pos rfl] at hh; obtain ⟨vn, vd, rfl, hvn, hvd⟩ := hh; obtain ⟨An, cn, rfl, _, _, _⟩ := RowF.open hvn; obtain ⟨Ad, cd, rfl, _, _, _⟩ := RowF.open hvd; replace hB := (hB.trans (hb.mono hB.size)).alloc (hB.trans (hb.mono hB.size)).size (.cells #[.bool b, .slice An (ln WB (numOf x)) cn, .slice Ad (ln WB (numOf y)) cd] 47); clear hb hvn hvd)
      go_ret2
      exact ⟨rfl, hB⟩
    · have hd : decide (n < 0) = false := decide_eq_false (by omega)
      have hd2 : decide (50 < n) = true := decide_eq_true hn
      go_enter Tryd.func38, Tryd.ntmps38
      go_wp2_with (go_at_call 40; refine (CF.out _ hB).mono ?_; rintro e w1 ⟨hh, hb⟩; rw [if_pos rfl] at hh; obtain ⟨vn, vd, rfl, hvn, hvd⟩ := hh; obtain ⟨An, cn, rfl, _, _, _⟩ := RowF.open hvn; obtain ⟨Ad, cd, rfl, _, _, _⟩ := RowF.open hvd; replace hB := (hB.trans (hb.mono hB.size)).alloc (hB.trans (hb.mono hB.size)).size (.cells #[.bool b, .slice An (ln WB (numOf x)) cn, .slice Ad (ln WB (numOf y)) cd] 47); clear hb hvn hvd)
      go_ret2
      exact ⟨rfl, hB⟩

theorem implDec_any (b : Bool) (x y : ByteArray) (n : Int) (w : World) (hx : x.size ≤ 9223372036854775807) (hy : y.size ≤ 9223372036854775807) (hU : UnitB w) (hT : Tab64 w) (hP : TabP w) :
    Calls Tryd.prog 38 #[.agg #[.bool b, .string x, .string y], .int .i64 n] w fun e w' => e = .returned (decRes b x y n) ∧ Below w.heap.size w w' := by
  unfold decRes
  by_cases h : (validR b x y && decide (0 ≤ n ∧ n ≤ 50)) = true
  · rw [if_pos h]
    rw [Bool.and_eq_true, decide_eq_true_eq] at h
    obtain ⟨k, rfl⟩ : ∃ k : Nat, n = (k : Nat) := ⟨n.toNat, by omega⟩
    rw [Int.toNat_natCast]
    exact implDec_yes b x y k w (by omega) hx hy hU hT hP h.1
  · rw [if_neg h]
    refine implDec_no b x y n w hx hy hU hT ?_
    by_cases hn : 0 ≤ n ∧ n ≤ 50
    · left
      rw [decide_eq_true hn, Bool.and_true] at h
      simpa using h
    · right; omega

set_option maxRecDepth 100000 in
set_option maxHeartbeats 3200000 in
theorem lawDec_any (b : Bool) (x y : ByteArray) (n : Int) (w : World) (hU : UnitB w) (hT : Tab64 w) (hP : TabP w) (hx : x.size ≤ 9223372036854775807) (hy : y.size ≤ 9223372036854775807) :
    Calls Tryd.prog 13 #[.agg #[.bool b, .string x, .string y], .int .i64 n] w fun e w' => e = .returned (.bool true) ∧ Below w.heap.size w w' := by
  obtain ⟨t, c, htc⟩ := decRes_shape b x y n
  have C0 : Hid (∀ W, _) := Lib.hid fun W => szRat_any b x y 1048576 W (by omega) (by omega) hx hy
  have C1 : Hid (∀ W, _) := Lib.hid fun W => toRat_any b x y W
  have C2 : Hid (∀ W, _) := Lib.hid fun W => specDec_any b x y n W hx hy
  have C3 : Hid (∀ W, Below w.heap.size w W → _) := Lib.hid fun W hW => implDec_any b x y n W hx hy (hU.below hW) (hT.below hW) (staysP.below _ _ hP hW)
  rw [htc] at C2 C3
  clear htc hU hT hP hx hy
  have hcc : (!c == c) = false := by cases c <;> rfl
  have htt : (t.toList == t.toList) = true := by rw [beq_iff_eq]
  have hbox := Box.new w 23 #[.bool b, .string x, .string y]
  have hB := (Below.refl w.heap.size w).alloc (Nat.le_refl _) (.cells #[.bool b, .string x, .string y] 23)
  obtain ⟨r0, r1, r2, _, _, _⟩ := hbox.three
  go_enter Tryd.func13, Tryd.ntmps13
  go_wp2_with (first
    | (go_at_call 14; refine (C0.out _).mono ?_; rintro e w1 ⟨⟨m, rfl, hm1, hm2, hm3⟩, hb⟩; clear hm3; replace hB := hB.trans (hb.mono hB.size); replace hbox := hbox.below hb hbox.lt; clear hb r0 r1 r2; obtain ⟨r0, r1, r2, _, _, _⟩ := hbox.three)
    | (go_at_call 16; refine (C1.out _).mono ?_; rintro e w2 ⟨rfl, hb⟩; replace hB := hB.trans (hb.mono hB.size); replace hbox := hbox.below hb hbox.lt; clear hb r0 r1 r2; obtain ⟨r0, r1, r2, _, _, _⟩ := hbox.three)
    | (go_at_call 37; refine (C2.out _).mono ?_; rintro e w3 ⟨rfl, hb⟩; replace hB := hB.trans (hb.mono hB.size); replace hbox := hbox.below hb hbox.lt; clear hb r0 r1 r2; obtain ⟨r0, r1, r2, _, _, _⟩ := hbox.three)
    | (go_at_call 38; refine (C3.out _ hB).mono ?_; rintro e w4 ⟨rfl, hb⟩; replace hB := hB.trans (hb.mono hB.size); replace hbox := hbox.below hb hbox.lt; clear hb r0 r1 r2; obtain ⟨r0, r1, r2, _, _, _⟩ := hbox.three))
  all_goals go_ret
  all_goals exact ⟨rfl, hB⟩

end Go.Proofs.YteefgmnjhlmbiaaDoor
