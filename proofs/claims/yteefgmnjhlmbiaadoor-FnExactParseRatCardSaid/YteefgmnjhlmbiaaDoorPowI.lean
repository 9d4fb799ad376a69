/-
  The program's PowRat, and the law.
-/
import Derived.Test.YteefgmnjhlmbiaaDoorPowS
import Derived.Test.YteefgmnjhlmbiaaDoorFracLaw
import Derived.Test.YteefgmnjhlmbiaaDoorEqRat
namespace Go.Proofs.YteefgmnjhlmbiaaDoor
open Go.RowKit Num

set_option maxRecDepth 100000 in
set_option maxHeartbeats 1600000 in
theorem specPow_no (b : Bool) (x y : ByteArray) (n : Int) (w : World) (hx : x.size ≤ 9223372036854775807) (hy : y.size ≤ 9223372036854775807) (h : validR b x y = false ∨ ¬ (0 ≤ n ∧ n ≤ 200)) :
    Calls Tryd.prog 31 #[.agg #[.bool b, .string x, .string y], .int .i64 n] w fun e w' => e = .returned noRat ∧ Below w.heap.size w w' := by
  have C1 : Hid (∀ W, _) := Lib.hid fun W => validS_any b x y W hx hy
  have CI : Hid (∀ W, _) := Lib.hid fun W => in_any n 0 200 W
  have hA := (Box.new w 26 #[.bool b, .string x, .string y]).alloc (.cells #[.bool false, .string ⟨#[]⟩, .string ⟨#[]⟩] 26)
  have hR := Box.new (w.alloc (.cells #[.bool b, .string x, .string y] 26)) 26 #[.bool false, .string ⟨#[]⟩, .string ⟨#[]⟩]
  rw [show (w.alloc (.cells #[.bool b, .string x, .string y] 26)).heap.size = w.heap.size + 1 by simp] at hR
  have hB := ((Below.refl w.heap.size w).alloc (Nat.le_refl _) (.cells #[.bool b, .string x, .string y] 26)).alloc (by simp) (.cells #[.bool false, .string ⟨#[]⟩, .string ⟨#[]⟩] 26)
  obtain ⟨r0, r1, r2, _, _, _⟩ := hA.three
  cases hv : validR b x y with
  | false =>
    rw [hv] at C1
    clear h hv hx hy
    go_enter Tryd.func31, Tryd.ntmps31
    go_wp2_with (go_at_call 39; refine (C1.out _).mono ?_; rintro e w1 ⟨rfl, hb⟩; replace hB := hB.trans (hb.mono hB.size); replace hR := hR.below hb hR.lt; obtain ⟨t0, t1, t2, f0, f1, f2⟩ := hR.three; clear hb)
    obtain ⟨m0, m1, m2⟩ := hR.put3 (.bool false) (.string ⟨#[]⟩) (.string ⟨#[]⟩)
    refine bodyPost_ret (v := noRat) (by simp [results, Tryd.results31, go_sem, noRat, m0, m1, m2]; done) rfl ⟨rfl, ?_⟩
    exact below_put3 hB (by omega) _ _ _
  | true =>
    rw [hv] at C1
    have hn : ¬ (0 ≤ n ∧ n ≤ 200) := by
      rcases h with h | h
      · rw [hv] at h; cases h
      · exact h
    rw [decide_eq_false hn] at CI
    clear h hv hx hy hn
    go_enter Tryd.func31, Tryd.ntmps31
    go_wp2_with (first
      | (go_at_call 39; refine (C1.out _).mono ?_; rintro e w1 ⟨rfl, hb⟩; replace hB := hB.trans (hb.mono hB.size); replace hR := hR.below hb hR.lt; obtain ⟨t0, t1, t2, f0, f1, f2⟩ := hR.three; clear hb)
      | (go_at_call 58; refine (CI.out _).mono ?_; rintro e w2 ⟨rfl, rfl⟩))
    obtain ⟨m0, m1, m2⟩ := hR.put3 (.bool false) (.string ⟨#[]⟩) (.string ⟨#[]⟩)
    refine bodyPost_ret (v := noRat) (by simp [results, Tryd.results31, go_sem, noRat, m0, m1, m2]; done) rfl ⟨rfl, ?_⟩
    exact below_put3 hB (by omega) _ _ _

theorem specPow_any (b : Bool) (x y : ByteArray) (n : Int) (w : World) (hx : x.size ≤ 9223372036854775807) (hy : y.size ≤ 9223372036854775807) :
    Calls Tryd.prog 31 #[.agg #[.bool b, .string x, .string y], .int .i64 n] w fun e w' => e = .returned (powRes b x y n) ∧ Below w.heap.size w w' := by
  unfold powRes
  by_cases h : (validR b x y && decide (0 ≤ n ∧ n ≤ 200)) = true
  · rw [if_pos h]
    rw [Bool.and_eq_true, decide_eq_true_eq] at h
    obtain ⟨k, rfl⟩ : ∃ k : Nat, n = (k : Nat) := ⟨n.toNat, by omega⟩
    rw [Int.toNat_natCast]
    exact specPow_yes b x y k w (by omega) hx hy h.1
  · rw [if_neg h]
    refine specPow_no b x y n w hx hy ?_
    by_cases hn : 0 ≤ n ∧ n ≤ 200
    · left
      rw [decide_eq_true hn, Bool.and_true] at h
      simpa using h
    · exact .inr hn

set_option maxRecDepth 100000 in
set_option maxHeartbeats 3200000 in
theorem implPow_no (b : Bool) (x y : ByteArray) (n : Int) (w : World) (hx : x.size ≤ 9223372036854775807) (hy : y.size ≤ 9223372036854775807) (hU : UnitB w) (hT : Tab64 w) (h : validR b x y = false ∨ n < 0 ∨ 200 < n) :
    Calls Tryd.prog 32 #[.agg #[.bool b, .string x, .string y], .int .i64 n] w fun e w' => e = .returned noRat ∧ Below w.heap.size w w' := by
  have CF : Hid (∀ W, Below w.heap.size w W → _) := Lib.hid fun W hW => fracOf_all b x y W hx hy (hU.below hW) (hT.below hW)
  have hA := (Box.new w 26 #[.bool b, .string x, .string y]).alloc (.cells #[.bool false, .string ⟨#[]⟩, .string ⟨#[]⟩] 26)
  have hR := Box.new (w.alloc (.cells #[.bool b, .string x, .string y] 26)) 26 #[.bool false, .string ⟨#[]⟩, .string ⟨#[]⟩]
  rw [show (w.alloc (.cells #[.bool b, .string x, .string y] 26)).heap.size = w.heap.size + 1 by simp] at hR
  have hB := ((Below.refl w.heap.size w).alloc (Nat.le_refl _) (.cells #[.bool b, .string x, .string y] 26)).alloc (by simp) (.cells #[.bool false, .string ⟨#[]⟩, .string ⟨#[]⟩] 26)
  obtain ⟨r0, r1, r2, _, _, _⟩ := hA.three
  clear hU hT hx hy
  cases hv : validR b x y with
  | false =>
    rw [hv] at CF
    clear h hv
    go_enter Tryd.func32, Tryd.ntmps32
    go_wp2_with (go_at_call 40; refine (CF.out _ hB).mono ?_; rintro e w1 ⟨hh, hb⟩; rw [if_neg (by decide)] at hh; unfold noFrac at hh; obtain rfl := hh; replace hB := (hB.trans (hb.mono hB.size)).alloc (hB.trans (hb.mono hB.size)).size (.cells #[.bool false, .slice none 0 0, .slice none 0 0] 47); replace hR := (hR.below hb hR.lt).alloc (.cells #[.bool false, .slice none 0 0, .slice none 0 0] 47); obtain ⟨t0, t1, t2, f0, f1, f2⟩ := hR.three; clear hb)
    obtain ⟨m0, m1, m2⟩ := hR.put3 (.bool false) (.string ⟨#[]⟩) (.string ⟨#[]⟩)
    refine bodyPost_ret (v := noRat) (by simp [results, Tryd.results32, go_sem, noRat, m0, m1, m2]; done) rfl ⟨rfl, ?_⟩
    exact below_put3 hB (by omega) _ _ _
  | true =>
    rw [hv] at CF
    have hn : n < 0 ∨ (0 ≤ n ∧ 200 < n) := by
      rcases h with h | h | h
      · rw [hv] at h; cases h
      · exact .inl h
      · exact .inr ⟨by omega, h⟩
    clear h hv
    rcases hn with hn | ⟨hn0, hn⟩
    · have hd : decide (n < 0) = true := decide_eq_true hn
      go_enter Tryd.func32, Tryd.ntmps32
      go_wp2_with (go_at_call 40; refine (CF.out _ hB).mono ?_; rintro e w1 ⟨hh, hb⟩; rw [if_pos rfl] at hh; obtain ⟨vn, vd, rfl, hvn, hvd⟩ := hh; obtain ⟨An, cn, rfl, _, _, _⟩ := RowF.open hvn; obtain ⟨Ad, cd, rfl, _, _, _⟩ := RowF.open hvd; replace hB := (hB.trans (hb.mono hB.size)).alloc (hB.trans (hb.mono hB.size)).size (.cells #[.bool b, .slice An (ln WB (numOf x)) cn, .slice Ad (ln WB (numOf y)) cd] 47); replace hR := (hR.below hb hR.lt).alloc (.cells #[.bool b, .slice An (ln WB (numOf x)) cn, .slice Ad (ln WB (numOf y)) cd] 47); obtain ⟨t0, t1, t2, f0, f1, f2⟩ := hR.three; clear hb hvn hvd)
      obtain ⟨m0, m1, m2⟩ := hR.put3 (.bool false) (.string ⟨#[]⟩) (.string ⟨#[]⟩)
      refine bodyPost_ret (v := noRat) (by simp [results, Tryd.results32, go_sem, noRat, m0, m1, m2]; done) rfl ⟨rfl, ?_⟩
      exact below_put3 hB (by omega) _ _ _
    · have hd : decide (n < 0) = false := decide_eq_false (by omega)
      have hd2 : decide (200 < n) = true := decide_eq_true hn
      go_enter Tryd.func32, Tryd.ntmps32
      go_wp2_with (go_at_call 40; refine (CF.out _ hB).mono ?_; rintro e w1 ⟨hh, hb⟩; rw [if_pos rfl] at hh; obtain ⟨vn, vd, rfl, hvn, hvd⟩ := hh; obtain ⟨An, cn, rfl, _, _, _⟩ := RowF.open hvn; obtain ⟨Ad, cd, rfl, _, _, _⟩ := RowF.open hvd; replace hB := (hB.trans (hb.mono hB.size)).alloc (hB.trans (hb.mono hB.size)).size (.cells #[.bool b, .slice An (ln WB (numOf x)) cn, .slice Ad (ln WB (numOf y)) cd] 47); replace hR := (hR.below hb hR.lt).alloc (.cells #[.bool b, .slice An (ln WB (numOf x)) cn, .slice Ad (ln WB (numOf y)) cd] 47); obtain ⟨t0, t1, t2, f0, f1, f2⟩ := hR.three; clear hb hvn hvd)
      obtain ⟨m0, m1, m2⟩ := hR.put3 (.bool false) (.string ⟨#[]⟩) (.string ⟨#[]⟩)
      refine bodyPost_ret (v := noRat) (by simp [results, Tryd.results32, go_sem, noRat, m0, m1, m2]; done) rfl ⟨rfl, ?_⟩
      exact below_put3 hB (by omega) _ _ _

set_option maxRecDepth 100000 in
set_option maxHeartbeats 3200000 in
theorem implPow_yes (b : Bool) (x y : ByteArray) (n : Nat) (w : World) (hn : n ≤ 200) (hx : x.size ≤ 9223372036854775807) (hy : y.size ≤ 9223372036854775807) (hU : UnitB w) (hT : Tab64 w) (hP : TabP w) (hv : validR b x y = true) :
    Calls Tryd.prog 32 #[.agg #[.bool b, .string x, .string y], .int .i64 (n : Nat)] w fun e w' => e = .returned (ratRes (b && decide (n % 2 = 1)) (numOf x ^ n) (numOf y ^ n)) ∧ Below w.heap.size w w' := by
  have CF : Hid (∀ W, Below w.heap.size w W → _) := Lib.hid fun W hW => fracOf_all b x y W hx hy (hU.below hW) (hT.below hW)
  rw [hv] at CF
  obtain ⟨m1, m2, _, _⟩ := validR_num hv
  have lX := ln_capS m1
  have lY := ln_capS m2
  obtain ⟨X, hX⟩ : ∃ X, X = numOf x := ⟨_, rfl⟩
  obtain ⟨Y, hY⟩ : ∃ Y, Y = numOf y := ⟨_, rfl⟩
  obtain ⟨sg, hsg⟩ : ∃ sg, sg = (b && decide (n % 2 = 1)) := ⟨_, rfl⟩
  rw [← hX] at CF lX ⊢
  rw [← hY] at CF lY ⊢
  rw [← hsg]
  have CR : Hid (∀ (vn vd : Value) (W : World), Below w.heap.size w W → Nums 94 .u64 WB W vn (X ^ n) → Nums 94 .u64 WB W vd (Y ^ n) → _) := Lib.hid fun vn vd W hW g1 g2 => ratF_all sg vn vd (X ^ n) (Y ^ n) W (staysP.below _ _ hP hW) g1 g2
  have HSG := Lib.hid hsg
  clear hX hY hU hT hP hv m1 m2 hx hy hsg
  have hA := (Box.new w 26 #[.bool b, .string x, .string y]).alloc (.cells #[.bool false, .string ⟨#[]⟩, .string ⟨#[]⟩] 26)
  have hR := Box.new (w.alloc (.cells #[.bool b, .string x, .string y] 26)) 26 #[.bool false, .string ⟨#[]⟩, .string ⟨#[]⟩]
  rw [show (w.alloc (.cells #[.bool b, .string x, .string y] 26)).heap.size = w.heap.size + 1 by simp] at hR
  have hB := ((Below.refl w.heap.size w).alloc (Nat.le_refl _) (.cells #[.bool b, .string x, .string y] 26)).alloc (by simp) (.cells #[.bool false, .string ⟨#[]⟩, .string ⟨#[]⟩] 26)
  obtain ⟨r0, r1, r2, _, _, _⟩ := hA.three
  have hd1 : decide ((n : Int) < 0) = false := decide_eq_false (by omega)
  have hd2 : decide ((200 : Int) < (n : Int)) = false := decide_eq_false (by omega)
  by_cases g1 : ln WB (X ^ n) ≤ 7
  · by_cases g2 : ln WB (Y ^ n) ≤ 7
    · obtain ⟨rb, rx, ry, rc, hres⟩ := ratRes_shape sg (X ^ n) (Y ^ n)
      rw [hres] at CR ⊢
      clear hres
      have G1 := Lib.hid g1
      have G2 := Lib.hid g2
      clear g1 g2
      cases b with
      | false =>
        obtain rfl : false = sg := by rw [HSG.out]; rfl
        clear HSG
        go_enter Tryd.func32, Tryd.ntmps32
        go_wp2_with (first
          | (go_at_call 40; refine (CF.out _ hB).mono ?_; rintro e w1 ⟨hh, hb⟩; rw [if_pos rfl] at hh; obtain ⟨vn, vd, rfl, hvn, hvd⟩ := hh; obtain ⟨An, cn, rfl, _, _, _⟩ := RowF.open hvn; obtain ⟨Ad, cd, rfl, _, _, _⟩ := RowF.open hvd; have hB1 := (hB.trans (hb.mono hB.size)).alloc (hB.trans (hb.mono hB.size)).size (.cells #[.bool false, .slice An (ln WB X) cn, .slice Ad (ln WB Y) cd] 47); have hR1 := (hR.below hb hR.lt).alloc (.cells #[.bool false, .slice An (ln WB X) cn, .slice Ad (ln WB Y) cd] 47); have hK := Box.new w1 47 #[.bool false, .slice An (ln WB X) cn, .slice Ad (ln WB Y) cd]; obtain ⟨k0, k1, k2, _, _, _⟩ := hK.three; have Hn := Lib.hid (hvn.below ((Below.refl w1.heap.size w1).alloc (Nat.le_refl _) (.cells #[.bool false, .slice An (ln WB X) cn, .slice Ad (ln WB Y) cd] 47)) (Nat.le_refl _)); have Hd := Lib.hid (hvd.below ((Below.refl w1.heap.size w1).alloc (Nat.le_refl _) (.cells #[.bool false, .slice An (ln WB X) cn, .slice Ad (ln WB Y) cd] 47)) (Nat.le_refl _)); clear hb hvn hvd)
          | (go_at_call_of 62 (Value.slice An (ln WB X) cn); refine (powW_any _ X n _ Hn.out hn lX).mono ?_; rintro e w5 ⟨⟨v5, rfl, ⟨q5, m5, c5, rfl⟩, h5⟩, hb5⟩; rw [decide_eq_true G1.out]; have hB5 := hB1.trans (hb5.mono hB1.size); have hR5 := hR1.below hb5 hR1.lt; have hK5 := hK.below hb5 hK.lt; obtain ⟨j0, j1, j2, _, _, _⟩ := hK5.three; have h5 := Lib.hid h5)
          | (go_at_call_of 62 (Value.slice Ad (ln WB Y) cd); refine (powW_any _ Y n _ (Hd.out.below hb5 (Nat.le_refl _)) hn lY).mono ?_; rintro e w6 ⟨⟨v6, rfl, ⟨q6, m6, c6, rfl⟩, h6⟩, hb6⟩; rw [decide_eq_true G2.out]; have hB6 := hB5.trans (hb6.mono hB5.size); have hR6 := hR5.below hb6 hR5.lt; have hK6 := hK5.below hb6 hK5.lt; obtain ⟨i0, i1, i2, _, _, _⟩ := hK6.three; obtain ⟨z0, z1, z2, f0, f1, f2⟩ := hR6.three; have h6 := Lib.hid h6)
          | (go_at_call 43; refine (CR.out _ _ _ hB6 ((h5.out G1.out).below hb6 (Nat.le_refl _)) (h6.out G2.out)).mono ?_; rintro e w7 ⟨rfl, hb7⟩; have hR7 := hR6.below hb7 hR6.lt; obtain ⟨y0, y1, y2, e0, e1, e2⟩ := hR7.three))
        obtain ⟨m0, m1, m2⟩ := hR7.put3 (.bool rb) (.string rx) (.string ry)
        refine bodyPost_ret (v := .tuple #[.agg #[.bool rb, .string rx, .string ry], .bool rc]) (by simp [results, Tryd.results32, go_sem, m0, m1, m2]; done) rfl ⟨rfl, ?_⟩
        exact below_put3 (hB6.trans (hb7.mono hB6.size)) (by omega) _ _ _
      | true =>
        obtain rfl : ((n : Int) % 2 == 1) = sg := by
          rw [HSG.out, Bool.true_and, Bool.eq_iff_iff, beq_iff_eq, decide_eq_true_eq]
          omega
        clear HSG
        go_enter Tryd.func32, Tryd.ntmps32
        go_wp2_with (first
          | (go_at_call 40; refine (CF.out _ hB).mono ?_; rintro e w1 ⟨hh, hb⟩; rw [if_pos rfl] at hh; obtain ⟨vn, vd, rfl, hvn, hvd⟩ := hh; obtain ⟨An, cn, rfl, _, _, _⟩ := RowF.open hvn; obtain ⟨Ad, cd, rfl, _, _, _⟩ := RowF.open hvd; have hB1 := (hB.trans (hb.mono hB.size)).alloc (hB.trans (hb.mono hB.size)).size (.cells #[.bool true, .slice An (ln WB X) cn, .slice Ad (ln WB Y) cd] 47); have hR1 := (hR.below hb hR.lt).alloc (.cells #[.bool true, .slice An (ln WB X) cn, .slice Ad (ln WB Y) cd] 47); have hK := Box.new w1 47 #[.bool true, .slice An (ln WB X) cn, .slice Ad (ln WB Y) cd]; obtain ⟨k0, k1, k2, _, _, _⟩ := hK.three; have Hn := Lib.hid (hvn.below ((Below.refl w1.heap.size w1).alloc (Nat.le_refl _) (.cells #[.bool true, .slice An (ln WB X) cn, .slice Ad (ln WB Y) cd] 47)) (Nat.le_refl _)); have Hd := Lib.hid (hvd.below ((Below.refl w1.heap.size w1).alloc (Nat.le_refl _) (.cells #[.bool true, .slice An (ln WB X) cn, .slice Ad (ln WB Y) cd] 47)) (Nat.le_refl _)); clear hb hvn hvd)
          | (go_at_call_of 62 (Value.slice An (ln WB X) cn); refine (powW_any _ X n _ Hn.out hn lX).mono ?_; rintro e w5 ⟨⟨v5, rfl, ⟨q5, m5, c5, rfl⟩, h5⟩, hb5⟩; rw [decide_eq_true G1.out]; have hB5 := hB1.trans (hb5.mono hB1.size); have hR5 := hR1.below hb5 hR1.lt; have hK5 := hK.below hb5 hK.lt; obtain ⟨j0, j1, j2, _, _, _⟩ := hK5.three; have h5 := Lib.hid h5)
          | (go_at_call_of 62 (Value.slice Ad (ln WB Y) cd); refine (powW_any _ Y n _ (Hd.out.below hb5 (Nat.le_refl _)) hn lY).mono ?_; rintro e w6 ⟨⟨v6, rfl, ⟨q6, m6, c6, rfl⟩, h6⟩, hb6⟩; rw [decide_eq_true G2.out]; have hB6 := hB5.trans (hb6.mono hB5.size); have hR6 := hR5.below hb6 hR5.lt; have hK6 := hK5.below hb6 hK5.lt; obtain ⟨i0, i1, i2, _, _, _⟩ := hK6.three; obtain ⟨z0, z1, z2, f0, f1, f2⟩ := hR6.three; have h6 := Lib.hid h6)
          | (go_at_call 43; refine (CR.out _ _ _ hB6 ((h5.out G1.out).below hb6 (Nat.le_refl _)) (h6.out G2.out)).mono ?_; rintro e w7 ⟨rfl, hb7⟩; have hR7 := hR6.below hb7 hR6.lt; obtain ⟨y0, y1, y2, e0, e1, e2⟩ := hR7.three))
        obtain ⟨m0, m1, m2⟩ := hR7.put3 (.bool rb) (.string rx) (.string ry)
        refine bodyPost_ret (v := .tuple #[.agg #[.bool rb, .string rx, .string ry], .bool rc]) (by simp [results, Tryd.results32, go_sem, m0, m1, m2]; done) rfl ⟨rfl, ?_⟩
        exact below_put3 (hB6.trans (hb7.mono hB6.size)) (by omega) _ _ _
    · rw [unfit (.inr (wide_not _ (by omega)))]
      have G1 := Lib.hid g1
      have G2 := Lib.hid g2
      clear g1 g2 CR
      go_enter Tryd.func32, Tryd.ntmps32
      go_wp2_with (first
        | (go_at_call 40; refine (CF.out _ hB).mono ?_; rintro e w1 ⟨hh, hb⟩; rw [if_pos rfl] at hh; obtain ⟨vn, vd, rfl, hvn, hvd⟩ := hh; obtain ⟨An, cn, rfl, _, _, _⟩ := RowF.open hvn; obtain ⟨Ad, cd, rfl, _, _, _⟩ := RowF.open hvd; have hB1 := (hB.trans (hb.mono hB.size)).alloc (hB.trans (hb.mono hB.size)).size (.cells #[.bool b, .slice An (ln WB X) cn, .slice Ad (ln WB Y) cd] 47); have hR1 := (hR.below hb hR.lt).alloc (.cells #[.bool b, .slice An (ln WB X) cn, .slice Ad (ln WB Y) cd] 47); have hK := Box.new w1 47 #[.bool b, .slice An (ln WB X) cn, .slice Ad (ln WB Y) cd]; obtain ⟨k0, k1, k2, _, _, _⟩ := hK.three; have Hn := Lib.hid (hvn.below ((Below.refl w1.heap.size w1).alloc (Nat.le_refl _) (.cells #[.bool b, .slice An (ln WB X) cn, .slice Ad (ln WB Y) cd] 47)) (Nat.le_refl _)); have Hd := Lib.hid (hvd.below ((Below.refl w1.heap.size w1).alloc (Nat.le_refl _) (.cells #[.bool b, .slice An (ln WB X) cn, .slice Ad (ln WB Y) cd] 47)) (Nat.le_refl _)); clear hb hvn hvd)
        | (go_at_call_of 62 (Value.slice An (ln WB X) cn); refine (powW_any _ X n _ Hn.out hn lX).mono ?_; rintro e w5 ⟨⟨v5, rfl, ⟨q5, m5, c5, rfl⟩, h5⟩, hb5⟩; rw [decide_eq_true G1.out]; have hB5 := hB1.trans (hb5.mono hB1.size); have hR5 := hR1.below hb5 hR1.lt; have hK5 := hK.below hb5 hK.lt; obtain ⟨j0, j1, j2, _, _, _⟩ := hK5.three; have h5 := Lib.hid h5)
        | (go_at_call_of 62 (Value.slice Ad (ln WB Y) cd); refine (powW_any _ Y n _ (Hd.out.below hb5 (Nat.le_refl _)) hn lY).mono ?_; rintro e w6 ⟨⟨v6, rfl, ⟨q6, m6, c6, rfl⟩, h6⟩, hb6⟩; rw [decide_eq_false G2.out]; have hB6 := hB5.trans (hb6.mono hB5.size); have hR6 := hR5.below hb6 hR5.lt; have hK6 := hK5.below hb6 hK5.lt; obtain ⟨i0, i1, i2, _, _, _⟩ := hK6.three; obtain ⟨z0, z1, z2, f0, f1, f2⟩ := hR6.three; have h6 := Lib.hid h6))
      obtain ⟨m0, m1, m2⟩ := hR6.put3 (.bool false) (.string ⟨#[]⟩) (.string ⟨#[]⟩)
      refine bodyPost_ret (v := noRat) (by simp [results, Tryd.results32, go_sem, noRat, m0, m1, m2]; done) rfl ⟨rfl, ?_⟩
      exact below_put3 hB6 (by omega) _ _ _
  · rw [unfit (.inl (wide_not _ (by omega)))]
    obtain ⟨c2, hc2⟩ : ∃ c2, c2 = decide (ln WB (Y ^ n) ≤ 7) := ⟨_, rfl⟩
    have G1 := Lib.hid g1
    have G2 := Lib.hid hc2
    clear g1 hc2 CR
    go_enter Tryd.func32, Tryd.ntmps32
    go_wp2_with (first
      | (go_at_call 40; refine (CF.out _ hB).mono ?_; rintro e w1 ⟨hh, hb⟩; rw [if_pos rfl] at hh; obtain ⟨vn, vd, rfl, hvn, hvd⟩ := hh; obtain ⟨An, cn, rfl, _, _, _⟩ := RowF.open hvn; obtain ⟨Ad, cd, rfl, _, _, _⟩ := RowF.open hvd; have hB1 := (hB.trans (hb.mono hB.size)).alloc (hB.trans (hb.mono hB.size)).size (.cells #[.bool b, .slice An (ln WB X) cn, .slice Ad (ln WB Y) cd] 47); have hR1 := (hR.below hb hR.lt).alloc (.cells #[.bool b, .slice An (ln WB X) cn, .slice Ad (ln WB Y) cd] 47); have hK := Box.new w1 47 #[.bool b, .slice An (ln WB X) cn, .slice Ad (ln WB Y) cd]; obtain ⟨k0, k1, k2, _, _, _⟩ := hK.three; have Hn := Lib.hid (hvn.below ((Below.refl w1.heap.size w1).alloc (Nat.le_refl _) (.cells #[.bool b, .slice An (ln WB X) cn, .slice Ad (ln WB Y) cd] 47)) (Nat.le_refl _)); have Hd := Lib.hid (hvd.below ((Below.refl w1.heap.size w1).alloc (Nat.le_refl _) (.cells #[.bool b, .slice An (ln WB X) cn, .slice Ad (ln WB Y) cd] 47)) (Nat.le_refl _)); clear hb hvn hvd)
      | (go_at_call_of 62 (Value.slice An (ln WB X) cn); refine (powW_any _ X n _ Hn.out hn lX).mono ?_; rintro e w5 ⟨⟨v5, rfl, ⟨q5, m5, c5, rfl⟩, h5⟩, hb5⟩; rw [decide_eq_false G1.out]; have hB5 := hB1.trans (hb5.mono hB1.size); have hR5 := hR1.below hb5 hR1.lt; have hK5 := hK.below hb5 hK.lt; obtain ⟨j0, j1, j2, _, _, _⟩ := hK5.three; have h5 := Lib.hid h5)
      | (go_at_call_of 62 (Value.slice Ad (ln WB Y) cd); refine (powW_any _ Y n _ (Hd.out.below hb5 (Nat.le_refl _)) hn lY).mono ?_; rintro e w6 ⟨⟨v6, rfl, ⟨q6, m6, c6, rfl⟩, h6⟩, hb6⟩; rw [← G2.out]; have hB6 := hB5.trans (hb6.mono hB5.size); have hR6 := hR5.below hb6 hR5.lt; have hK6 := hK5.below hb6 hK5.lt; obtain ⟨i0, i1, i2, _, _, _⟩ := hK6.three; obtain ⟨z0, z1, z2, f0, f1, f2⟩ := hR6.three; have h6 := Lib.hid h6))
    obtain ⟨m0, m1, m2⟩ := hR6.put3 (.bool false) (.string ⟨#[]⟩) (.string ⟨#[]⟩)
    refine bodyPost_ret (v := noRat) (by simp [results, Tryd.results32, go_sem, noRat, m0, m1, m2]; done) rfl ⟨rfl, ?_⟩
    exact below_put3 hB6 (by omega) _ _ _

theorem implPow_any (b : Bool) (x y : ByteArray) (n : Int) (w : World) (hx : x.size ≤ 9223372036854775807) (hy : y.size ≤ 9223372036854775807) (hU : UnitB w) (hT : Tab64 w) (hP : TabP w) :
    Calls Tryd.prog 32 #[.agg #[.bool b, .string x, .string y], .int .i64 n] w fun e w' => e = .returned (powRes b x y n) ∧ Below w.heap.size w w' := by
  unfold powRes
  by_cases h : (validR b x y && decide (0 ≤ n ∧ n ≤ 200)) = true
  · rw [if_pos h]
    rw [Bool.and_eq_true, decide_eq_true_eq] at h
    obtain ⟨k, rfl⟩ : ∃ k : Nat, n = (k : Nat) := ⟨n.toNat, by omega⟩
    rw [Int.toNat_natCast]
    exact implPow_yes b x y k w (by omega) hx hy hU hT hP h.1
  · rw [if_neg h]
    refine implPow_no b x y n w hx hy hU hT ?_
    by_cases hn : 0 ≤ n ∧ n ≤ 200
    · left
      rw [decide_eq_true hn, Bool.and_true] at h
      simpa using h
    · right; omega

set_option maxRecDepth 100000 in
set_option maxHeartbeats 3200000 in
theorem lawPow_any (b : Bool) (x y : ByteArray) (n : Int) (w : World) (hU : UnitB w) (hT : Tab64 w) (hP : TabP w) (hx : x.size ≤ 9223372036854775807) (hy : y.size ≤ 9223372036854775807) :
    Calls Tryd.prog 10 #[.agg #[.bool b, .string x, .string y], .int .i64 n] w fun e w' => e = .returned (.bool true) ∧ Below w.heap.size w w' := by
  obtain ⟨rb, rx, ry, rc, hres⟩ := powRes_shape b x y n
  have C0 : Hid (∀ W, _) := Lib.hid fun W => szRat_any b x y 1048576 W (by omega) (by omega) hx hy
  have CT : Hid (∀ W, _) := Lib.hid fun W => toRat_any b x y W
  have C1 : Hid (∀ W, _) := Lib.hid fun W => specPow_any b x y n W hx hy
  have C2 : Hid (∀ W, Below w.heap.size w W → _) := Lib.hid fun W hW => implPow_any b x y n W hx hy (hU.below hW) (hT.below hW) (staysP.below _ _ hP hW)
  rw [hres] at C1 C2
  clear hres hU hT hP hx hy
  have hcc : (!rc == rc) = false := by cases rc <;> rfl
  have hA := Box.new w 23 #[.bool b, .string x, .string y]
  have hB := (Below.refl w.heap.size w).alloc (Nat.le_refl _) (.cells #[.bool b, .string x, .string y] 23)
  obtain ⟨r0, r1, r2, _, _, _⟩ := hA.three
  go_enter Tryd.func10, Tryd.ntmps10
  go_wp2_with (first
    | (go_at_call 14; refine (C0.out _).mono ?_; rintro e w1 ⟨⟨m, rfl, hm1, hm2, hm3⟩, hb⟩; clear hm3; replace hB := hB.trans (hb.mono hB.size); replace hA := hA.below hb hA.lt; clear hb r0 r1 r2; obtain ⟨r0, r1, r2, _, _, _⟩ := hA.three)
    | (go_at_call 16; refine (CT.out _).mono ?_; rintro e w2 ⟨rfl, hb⟩; replace hB := hB.trans (hb.mono hB.size); replace hA := hA.below hb hA.lt; (try replace hS := hS.below hb hS.lt); clear hb r0 r1 r2; obtain ⟨r0, r1, r2, _, _, _⟩ := hA.three)
    | (go_at_call 31; refine (C1.out _).mono ?_; rintro e w3 ⟨rfl, hb⟩; have hS := Box.new w3 26 #[.bool rb, .string rx, .string ry]; replace hB := (hB.trans (hb.mono hB.size)).alloc (hB.trans (hb.mono hB.size)).size (.cells #[.bool rb, .string rx, .string ry] 26); replace hA := (hA.below hb hA.lt).alloc (.cells #[.bool rb, .string rx, .string ry] 26); clear hb r0 r1 r2; obtain ⟨r0, r1, r2, _, _, _⟩ := hA.three)
    | (go_at_call 32; refine (C2.out _ hB).mono ?_; rintro e w4 ⟨rfl, hb⟩; replace hS := (hS.below hb hS.lt).alloc (.cells #[.bool rb, .string rx, .string ry] 26); replace hB := (hB.trans (hb.mono hB.size)).alloc (hB.trans (hb.mono hB.size)).size (.cells #[.bool rb, .string rx, .string ry] 26); obtain ⟨s0, s1, s2, _, _, _⟩ := hS.three; clear hb)
    | (go_at_call 20; refine (eqRat_same rb rx ry _).mono ?_; rintro e w5 ⟨rfl, hb⟩; replace hB := hB.trans (hb.mono hB.size)))
  all_goals go_ret
  all_goals exact ⟨rfl, hB⟩

end Go.Proofs.YteefgmnjhlmbiaaDoor
