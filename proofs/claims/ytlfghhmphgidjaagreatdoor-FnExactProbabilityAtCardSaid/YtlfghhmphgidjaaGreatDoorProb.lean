/-
  ProbabilityAt: the mathematics, the model and the program.
-/
import Derived.Test.YtlfghhmphgidjaaGreatDoorMeas
import Derived.Test.YtlfghhmphgidjaaGreatDoorDistS
import Derived.Test.YtlfghhmphgidjaaGreatDoorRatOfA
import Derived.Test.YtlfghhmphgidjaaGreatDoorDecAll
import Derived.Test.YtlfghhmphgidjaaGreatDoorShelf
namespace Go.Proofs.YtlfghhmphgidjaaGreatDoor
open Go.RowKit Num

/-- The first of the first n points whose value is v. -/
def findV (F : Nat → Int × Bool × ByteArray × ByteArray) (v : Int) : Nat → Option Nat
  | 0 => none
  | k + 1 => match findV F v k with
    | some j => some j
    | none => if (F k).1 = v then some k else none

theorem findV_some {F : Nat → Int × Bool × ByteArray × ByteArray} {v : Int} {n j : Nat} (h : findV F v n = some j) : j < n ∧ (F j).1 = v := by
  induction n with
  | zero => cases h
  | succ n ih =>
    unfold findV at h
    cases hf : findV F v n with
    | some i =>
      rw [hf] at h
      simp only at h
      obtain ⟨h1, h2⟩ := ih (hf.trans h)
      exact ⟨by omega, h2⟩
    | none =>
      rw [hf] at h
      simp only at h
      split at h
      · rename_i he
        injection h with h
        subst h
        exact ⟨by omega, he⟩
      · cases h

theorem findV_none {F : Nat → Int × Bool × ByteArray × ByteArray} {v : Int} {n : Nat} (h : findV F v n = none) : ∀ j, j < n → (F j).1 ≠ v := by
  induction n with
  | zero => intro j hj; omega
  | succ n ih =>
    unfold findV at h
    cases hf : findV F v n with
    | some i => rw [hf] at h; cases h
    | none =>
      rw [hf] at h
      simp only at h
      split at h
      · cases h
      · rename_i he
        intro j hj
        by_cases hjn : j < n
        · exact ih hf j hjn
        · obtain rfl : j = n := by omega
          exact he

theorem findV_up {F : Nat → Int × Bool × ByteArray × ByteArray} {v : Int} {k n j : Nat} (hk : k ≤ n) (h : findV F v k = some j) : findV F v n = some j := by
  induction n with
  | zero => obtain rfl : k = 0 := by omega
            exact h
  | succ n ih =>
    by_cases hkn : k ≤ n
    · unfold findV
      rw [ih hkn]
    · obtain rfl : k = n + 1 := by omega
      exact h

theorem findV_at {F : Nat → Int × Bool × ByteArray × ByteArray} {v : Int} {k n : Nat} (hk : k < n) (h0 : findV F v k = none) (h : (F k).1 = v) : findV F v n = some k :=
  findV_up (show k + 1 ≤ n by omega) (by unfold findV; rw [h0]; simp only; rw [if_pos h])

theorem findV_go {F : Nat → Int × Bool × ByteArray × ByteArray} {v : Int} {k : Nat} (h0 : findV F v k = none) (h : (F k).1 ≠ v) : findV F v (k + 1) = none := by
  unfold findV; rw [h0]; simp only; rw [if_neg h]

/-- Valid points rise. -/
theorem pts_rise {F : Nat → Int × Bool × ByteArray × ByteArray} {n : Nat} (h : ptsOk F n = true) : ∀ j i, i < j → j < n → (F i).1 < (F j).1 := by
  intro j
  induction j with
  | zero => intro i hi; omega
  | succ j ih =>
    intro i hi hj
    have h1 := (ptOk_parts (ptsOk_at h hj)).2.1 (by omega)
    rw [Nat.add_sub_cancel] at h1
    by_cases hij : i < j
    · exact Int.lt_trans (ih i hij (by omega)) h1
    · obtain rfl : i = j := by omega
      exact h1

theorem count_below {F : Nat → Int × Bool × ByteArray × ByteArray} {n j : Nat} (h : ptsOk F n = true) (hj : j < n) : ∀ k, k ≤ n → (((List.range k).map fun i => (F i).1).countP (· < (F j).1)) = min k j := by
  intro k
  induction k with
  | zero => intro _; simp
  | succ k ih =>
    intro hk
    rw [List.range_succ, List.map_append, List.countP_append, ih (by omega)]
    by_cases hkj : k < j
    · have := pts_rise h j k hkj hj
      simp [this]; omega
    · have h2 : ¬ (F k).1 < (F j).1 := by
        by_cases e : k = j
        · subst e; omega
        · have := pts_rise h k j (by omega) (by omega); omega
      simp [h2]; omega

/-- What ProbabilityAt answers. -/
def probRes (F : Nat → Int × Bool × ByteArray × ByteArray) (n : Nat) (v : Int) : Value :=
  if distOk F n = true then (match findV F v n with
    | some j => .tuple #[.agg #[.bool (F j).2.1, .string (F j).2.2.1, .string (F j).2.2.2], .bool true]
    | none => ratRes false 0 1) else noRat

theorem probRes_shape (F : Nat → Int × Bool × ByteArray × ByteArray) (n : Nat) (v : Int) : ∃ rb rx ry rc, probRes F n v = .tuple #[.agg #[.bool rb, .string rx, .string ry], .bool rc] := by
  unfold probRes
  split
  · split
    · exact ⟨_, _, _, _, rfl⟩
    · exact ratRes_shape _ _ _
  · exact ⟨false, ⟨#[]⟩, ⟨#[]⟩, false, rfl⟩

set_option maxRecDepth 100000 in
set_option maxHeartbeats 3200000 in
theorem probS_any (A0 : Option Addr) (n cap : Nat) (F : Nat → Int × Bool × ByteArray × ByteArray) (v : Int) (w : World) (hn : n ≤ 1048576) (hA : PtAt w A0 n F) (hs : ∀ j, j < n → (F j).2.2.1.size ≤ 9223372036854775807 ∧ (F j).2.2.2.size ≤ 9223372036854775807) :
    Calls Tryz.prog 22 #[.agg #[.slice A0 n cap], .int .i64 v] w fun e w' => e = .returned (probRes F n v) ∧ Below w.heap.size w w' := by
  have CV : Hid (∀ W, Below w.heap.size w W → _) := Lib.hid fun W hW => validD_any A0 n cap F W hn (hA.below hW (Nat.le_refl _)) hs
  have hD := (Box.new w 32 #[.slice A0 n cap]).alloc (.cells #[.bool false, .string ⟨#[]⟩, .string ⟨#[]⟩] 27)
  have hR := Box.new (w.alloc (.cells #[.slice A0 n cap] 32)) 27 #[.bool false, .string ⟨#[]⟩, .string ⟨#[]⟩]
  rw [show (w.alloc (.cells #[.slice A0 n cap] 32)).heap.size = w.heap.size + 1 by simp] at hR
  have hB := ((Below.refl w.heap.size w).alloc (Nat.le_refl _) (.cells #[.slice A0 n cap] 32)).alloc (by simp) (.cells #[.bool false, .string ⟨#[]⟩, .string ⟨#[]⟩] 27)
  have hd0 := hD.cell 0
  obtain ⟨r, hr⟩ : ∃ r, r = probRes F n v := ⟨_, rfl⟩
  rw [← hr]
  have Hr := Lib.hid hr; clear hr
  cases hv : distOk F n with
  | false =>
    rw [hv] at CV
    have hres : r = noRat := by rw [Hr.out]; unfold probRes; rw [if_neg (by rw [hv]; decide)]
    have Hres := Lib.hid hres
    clear hv hA hs hres
    go_enter Tryz.func22, Tryz.ntmps22
    go_wp2_with (go_at_call 61; refine (CV.out _ hB).mono ?_; rintro e w1 ⟨rfl, hb1⟩; have hB1 := hB.trans (hb1.mono hB.size); have hR1 := hR.below hb1 hR.lt; obtain ⟨z0, z1, z2, f0, f1, f2⟩ := hR1.three)
    obtain ⟨m0, m1, m2⟩ := hR1.put3 (.bool false) (.string ⟨#[]⟩) (.string ⟨#[]⟩)
    refine bodyPost_ret (v := noRat) (by simp [results, Tryz.results22, go_sem, noRat, m0, m1, m2]; done) rfl ⟨by rw [Hres.out], ?_⟩
    exact below_put3 hB1 (by omega) _ _ _
  | true =>
    rw [hv] at CV
    have HV := Lib.hid hv
    have HA := Lib.hid hA
    clear hv hA hs
    go_enter Tryz.func22, Tryz.ntmps22
    go_wp2_with (go_at_call 61; refine (CV.out _ hB).mono ?_; rintro e w1 ⟨rfl, hb1⟩; have hB1 := hB.trans (hb1.mono hB.size); have hR1 := hR.below hb1 hR.lt; have hd1 := (hD.below hb1 hD.lt).cell 0)
    go_loopg [15] n (fun q iv wr => ∃ k : Nat, k + q = n ∧ iv = .int .i64 (k : Nat) ∧ findV F v k = none ∧ Box wr (w.heap.size + 1) 27 #[.bool false, .string ⟨#[]⟩, .string ⟨#[]⟩] ∧ Below w.heap.size w wr)
    case atStart => exact ⟨0, by omega, rfl, rfl, hR1, hB1⟩
    case round =>
      obtain ⟨k, hkq, rfl, hfn, hRr, hbel⟩ := hrel
      have HFN := Lib.hid hfn; clear hfn
      clear hD hR hB hd0 hR1 hB1 hd1 hb1
      by_cases hk0 : k < n
      · have hAw : PtAt wr A0 n F := HA.out.below hbel (Nat.le_refl _)
        obtain ⟨b, off, rfl, hb, r0, r1, r2, r3⟩ := hAw.at_ hk0
        obtain ⟨⟨pv, rb, rx, ry⟩, hF⟩ : ∃ t, t = F k := ⟨_, rfl⟩
        rw [← hF] at r0 r1 r2 r3
        simp only at r0 r1 r2 r3
        have hT := Box.new wr 93 #[.int .i64 pv, .bool rb, .string rx, .string ry]
        replace hRr := hRr.alloc (.cells #[.int .i64 pv, .bool rb, .string rx, .string ry] 93)
        have hal := (Below.refl wr.heap.size wr).alloc (Nat.le_refl _) (.cells #[.int .i64 pv, .bool rb, .string rx, .string ry] 93)
        replace hbel := hbel.trans (hal.mono hbel.size)
        obtain ⟨t0, t1, t2, t3, _, _, _, _⟩ := hT.four
        obtain ⟨z0, z1, z2, f0, f1, f2⟩ := hRr.three
        have HF := Lib.hid hF
        clear hb hAw hal hF
        by_cases hpv : pv = v
        · subst hpv
          have hres : r = .tuple #[.agg #[.bool rb, .string rx, .string ry], .bool true] := by
            rw [Hr.out]; unfold probRes
            rw [if_pos HV.out, findV_at hk0 HFN.out (by rw [← HF.out])]
            simp only
            rw [← HF.out]
          have Hres := Lib.hid hres
          clear hres
          go_wp2_with fail
          obtain ⟨m0, m1, m2⟩ := hRr.put3 (.bool rb) (.string rx) (.string ry)
          refine bodyPost_ret (v := .tuple #[.agg #[.bool rb, .string rx, .string ry], .bool true]) (by simp [results, Tryz.results22, go_sem, m0, m1, m2]; done) rfl ⟨by rw [Hres.out], ?_⟩
          exact below_put3 hbel (by omega) _ _ _
        · have hne : (pv == v) = false := by simpa using hpv
          have HN := Lib.hid (findV_go HFN.out (by rw [← HF.out]; exact hpv))
          clear hpv
          go_wp2_with fail
          go_roundg (gk - 1)
          case measure => omega
          case rel => exact ⟨k + 1, by omega, by go_num, HN.out, hRr, hbel⟩
      · obtain rfl : k = n := by omega
        obtain ⟨rb, rx, ry, rc, hrr⟩ := ratRes_shape false 0 1
        have hres : r = .tuple #[.agg #[.bool rb, .string rx, .string ry], .bool rc] := by
          rw [Hr.out]; unfold probRes
          rw [if_pos HV.out, HFN.out]
          exact hrr
        have Hres := Lib.hid hres
        have C0 : Hid (∀ W, Calls Tryz.prog 68 #[.int .i64 0] W fun e w' => (∃ v, e = .returned v ∧ IsQ w' v false 0 1) ∧ Below W.heap.size W w') := Lib.hid fun W => intQ_any 0 W (by omega) (by omega)
        have l0 : ln 10000 0 ≤ 549755813888 := by rw [ln_zero]; omega
        have l1 : ln 10000 1 ≤ 549755813888 := by rw [Num.ln_one 10000 (by omega)]; omega
        have CR : Hid (∀ (u1 u2 : Value) W, Nums 3 .i64 10000 W u1 0 → Nums 3 .i64 10000 W u2 1 → _) :=
          Lib.hid fun u1 u2 W g1 g2 => rat_of_low false u1 u2 0 1 W g1 g2 Nat.one_pos (Nat.gcd_one_right 0) (fun h => by cases h) l0 l1
        rw [hrr] at CR
        clear hres hrr l0 l1
        go_wp2_with (first
          | (go_at_call 68; refine (C0.out _).mono ?_; rintro e w2 ⟨⟨u, rfl, vn, vd, rfl, hvn, hvd⟩, hb2⟩; obtain ⟨A1, c1, rfl, _, _, _⟩ := RowF.open hvn; obtain ⟨A2, c2, rfl, _, _, _⟩ := RowF.open hvd; have hR2 := hRr.below hb2 hRr.lt; have hB2 := hbel.trans (hb2.mono hbel.size))
          | (go_at_call 62; refine (CR.out _ _ _ hvn hvd).mono ?_; rintro e w3 ⟨rfl, hb3⟩; have hB3 := hB2.trans (hb3.mono hB2.size); have hR3 := hR2.below hb3 hR2.lt; obtain ⟨z0, z1, z2, f0, f1, f2⟩ := hR3.three))
        obtain ⟨m0, m1, m2⟩ := hR3.put3 (.bool rb) (.string rx) (.string ry)
        refine bodyPost_ret (v := .tuple #[.agg #[.bool rb, .string rx, .string ry], .bool rc]) (by simp [results, Tryz.results22, go_sem, m0, m1, m2]; done) rfl ⟨by rw [Hres.out], ?_⟩
        exact below_put3 hB3 (by omega) _ _ _

set_option maxRecDepth 100000 in
set_option maxHeartbeats 3200000 in
theorem implProb_any (A0 : Option Addr) (n cap : Nat) (F : Nat → Int × Bool × ByteArray × ByteArray) (v : Int) (w : World) (hn : n ≤ 1048576) (hA : PtAt w A0 n F) (hs : ∀ j, j < n → (F j).2.2.1.size ≤ 9223372036854775807 ∧ (F j).2.2.2.size ≤ 9223372036854775807) (hU : UnitB w) (hT : Tab64 w) (hP : TabP w) :
    Calls Tryz.prog 23 #[.agg #[.slice A0 n cap], .int .i64 v] w fun e w' => e = .returned (probRes F n v) ∧ Below w.heap.size w w' := by
  have CM : Hid (∀ W, Below w.heap.size w W → _) := Lib.hid fun W hW => meas_any A0 n cap F W hn (hA.below hW (Nat.le_refl _)) hs (hU.below hW) (hT.below hW)
  have hR := Box.new (w.alloc (.cells #[.slice A0 n cap] 32)) 27 #[.bool false, .string ⟨#[]⟩, .string ⟨#[]⟩]
  rw [show (w.alloc (.cells #[.slice A0 n cap] 32)).heap.size = w.heap.size + 1 by simp] at hR
  have hB := ((Below.refl w.heap.size w).alloc (Nat.le_refl _) (.cells #[.slice A0 n cap] 32)).alloc (by simp) (.cells #[.bool false, .string ⟨#[]⟩, .string ⟨#[]⟩] 27)
  have hd0 := ((Box.new w 32 #[.slice A0 n cap]).alloc (.cells #[.bool false, .string ⟨#[]⟩, .string ⟨#[]⟩] 27)).cell 0
  have HP := Lib.hid hP
  have HT := Lib.hid hT
  obtain ⟨r, hr⟩ : ∃ r, r = probRes F n v := ⟨_, rfl⟩
  rw [← hr]
  have Hr := Lib.hid hr; clear hr
  cases hv : distOk F n with
  | false =>
    have HV := Lib.hid hv
    have hres : r = noRat := by rw [Hr.out]; unfold probRes; rw [if_neg (by rw [hv]; decide)]
    have Hres := Lib.hid hres
    clear hv hA hs hU hT hP hres
    go_enter Tryz.func23, Tryz.ntmps23
    go_wp2_with (go_at_call 65; refine (CM.out _ hB).mono ?_; rintro e w1 ⟨he, hb1⟩; rw [if_neg (by rw [HV.out]; decide)] at he; subst he; unfold noMeas; have hR1 := (hR.below hb1 hR.lt).alloc (.cells #[.slice none 0 0, .slice none 0 0, .bool false, .slice none 0 0, .slice none 0 0] 87); have hB1 := (hB.trans (hb1.mono hB.size)).alloc (hB.trans (hb1.mono hB.size)).size (.cells #[.slice none 0 0, .slice none 0 0, .bool false, .slice none 0 0, .slice none 0 0] 87); obtain ⟨z0, z1, z2, f0, f1, f2⟩ := hR1.three)
    obtain ⟨m0, m1, m2⟩ := hR1.put3 (.bool false) (.string ⟨#[]⟩) (.string ⟨#[]⟩)
    refine bodyPost_ret (v := noRat) (by simp [results, Tryz.results23, go_sem, noRat, m0, m1, m2]; done) rfl ⟨by rw [Hres.out], ?_⟩
    exact below_put3 hB1 (by omega) _ _ _
  | true =>
    have HV := Lib.hid hv
    obtain ⟨hn6, hok, _⟩ := distOk_parts hv
    have HOK := Lib.hid hok
    clear hv hA hs hU hT hP hok
    go_enter Tryz.func23, Tryz.ntmps23
    go_upto_region 4 with (go_at_call 65; refine (CM.out _ hB).mono ?_; rintro e w1 ⟨he, hb1⟩; rw [if_pos HV.out] at he; obtain ⟨A1, c1, A2, c2, A3, l3, c3, A4, l4, c4, rfl, gi, gf, _, _, _, _⟩ := he)
    have hal := (Below.refl w1.heap.size w1).alloc (Nat.le_refl _) (.cells #[.slice A1 n c1, .slice A2 n c2, .bool false, .slice A3 l3 c3, .slice A4 l4 c4] 87)
    have hM := Box.new w1 87 #[.slice A1 n c1, .slice A2 n c2, .bool false, .slice A3 l3 c3, .slice A4 l4 c4]
    have hR1 := (hR.below hb1 hR.lt).below hal (Nat.lt_of_lt_of_le hR.lt hb1.size)
    have hB1 := (hB.trans (hb1.mono hB.size)).trans (hal.mono (hB.trans (hb1.mono hB.size)).size)
    replace gi := gi.below hal (Nat.le_refl _)
    replace gf := gf.below hal (Nat.le_refl _)
    obtain ⟨M, hMd⟩ : ∃ M, M = w1.heap.size := ⟨_, rfl⟩
    rw [← hMd] at hM ⊢
    obtain ⟨W, hW⟩ : ∃ W, W = w1.alloc (.cells #[.slice A1 n c1, .slice A2 n c2, .bool false, .slice A3 l3 c3, .slice A4 l4 c4] 87) := ⟨_, rfl⟩
    rw [← hW] at hM hR1 hB1 gi gf ⊢
    clear hW hMd hal hb1 hR hB hd0
    obtain ⟨⟨y0, y1, y2, y3, y4⟩, _⟩ := hM.five
    obtain ⟨zs, hzs⟩ : ∃ zs, zs = (List.range n).map fun i => (F i).1 := ⟨_, rfl⟩
    have hzl : zs.length = n := by rw [hzs]; simp
    have CB : Calls Tryz.prog 69 #[.slice A1 n c1, .int .i64 v] W fun e w' => e = .returned (.tuple #[.int .i64 ((zs.countP (· < v) : Nat) : Int), .bool (zs.contains v)]) ∧ ∃ q, w' = W.drewN q := by
      by_cases h0 : 0 < n
      · obtain ⟨b, off, rfl, _, hc⟩ := gi h0
        have h := Tryz.slices_BinarySearch_int b off n c1 zs v W (by omega) (by omega) (fun j hj => by
          rw [hc j (by omega)]
          subst hzs
          simp [List.getD, show j < n by omega]) (by
          rw [List.take_of_length_le (by omega), hzs, List.pairwise_map]
          refine List.Pairwise.imp_of_mem ?_ List.pairwise_lt_range
          intro a b ha hb hab
          exact Int.le_of_lt (pts_rise HOK.out b a hab (List.mem_range.1 hb)))
        rw [List.take_of_length_le (by omega)] at h
        exact h
      · obtain rfl : n = 0 := by omega
        obtain rfl : zs = [] := List.eq_nil_of_length_eq_zero hzl
        exact (Tryz.slices_BinarySearch_int_empty A1 c1 v W).mono fun e w' h => ⟨by rw [h.1]; rfl, 0, h.2⟩
    have HB := Lib.hid CB
    clear CB
    have hcon : zs.contains v = (findV F v n).isSome := by
      rw [Bool.eq_iff_iff, List.contains_iff_mem, hzs]
      simp only [List.mem_map, List.mem_range]
      cases hf : findV F v n with
      | some j =>
        obtain ⟨h1, h2⟩ := findV_some hf
        simp only [Option.isSome_some, iff_true]
        exact ⟨j, h1, h2⟩
      | none =>
        simp only [Option.isSome_none, Bool.false_eq_true, iff_false]
        rintro ⟨j, h1, h2⟩
        exact findV_none hf j h1 h2
    rw [hcon] at HB
    clear hcon
    cases hf : findV F v n with
    | none =>
      rw [hf] at HB
      simp only [Option.isSome_none] at HB
      obtain ⟨rb, rx, ry, rc, hrr⟩ := ratRes_shape false 0 1
      have hres : r = .tuple #[.agg #[.bool rb, .string rx, .string ry], .bool rc] := by
        rw [Hr.out]; unfold probRes
        rw [if_pos HV.out, hf]
        exact hrr
      have Hres := Lib.hid hres
      have C0 : Hid (∀ W, Below w.heap.size w W → Calls Tryz.prog 70 #[.int .i64 0, .int .i64 1] W fun e w' => (∃ v, e = .returned v ∧ IsF w' v false 0 1) ∧ Below W.heap.size W w') := Lib.hid fun W hW => by
        have h := fracInts_any 0 1 W (HT.out.below hW) (by omega) (by omega) (by omega) (by omega) (by omega)
        exact h
      have CR : Hid (∀ (u1 u2 : Value) W, Below w.heap.size w W → Nums 143 .u64 WB W u1 0 → Nums 143 .u64 WB W u2 1 → _) := Lib.hid fun u1 u2 W hW g1 g2 => ratF_all false u1 u2 0 1 W (staysP.below _ _ HP.out hW) g1 g2
      rw [hrr] at CR
      obtain ⟨cn, hcn⟩ : ∃ c, c = zs.countP (· < v) := ⟨_, rfl⟩
      rw [← hcn] at HB
      clear hf hres hrr hcn hzs hzl gi gf
      go_wp2_with (first
        | (go_at_call 69; refine HB.out.mono ?_; rintro e w2 ⟨rfl, q, rfl⟩; have hB2 := below_drewN q hB1; have hR2 : Box (W.drewN q) _ _ _ := hR1)
        | (go_at_call 70; refine (C0.out _ hB2).mono ?_; rintro e w3 ⟨⟨u, rfl, vn, vd, rfl, hvn, hvd⟩, hb3⟩; obtain ⟨A5, c5, rfl, _, _, _⟩ := RowF.open hvn; obtain ⟨A6, c6, rfl, _, _, _⟩ := RowF.open hvd; have hR3 := hR2.below hb3 hR2.lt; have hB3 := hB2.trans (hb3.mono hB2.size))
        | (go_at_call 66; refine (CR.out _ _ _ hB3 hvn hvd).mono ?_; rintro e w4 ⟨rfl, hb4⟩; have hR4 := hR3.below hb4 hR3.lt; have hB4 := hB3.trans (hb4.mono hB3.size); obtain ⟨z0, z1, z2, f0, f1, f2⟩ := hR4.three))
      obtain ⟨m0, m1, m2⟩ := hR4.put3 (.bool rb) (.string rx) (.string ry)
      refine bodyPost_ret (v := .tuple #[.agg #[.bool rb, .string rx, .string ry], .bool rc]) (by simp [results, Tryz.results23, go_sem, m0, m1, m2]; done) rfl ⟨by rw [Hres.out], ?_⟩
      exact below_put3 hB4 (by omega) _ _ _
    | some j =>
      rw [hf] at HB
      simp only [Option.isSome_some] at HB
      obtain ⟨hj, hjv⟩ := findV_some hf
      have hpo := ptOk_parts (ptsOk_at HOK.out hj)
      have hcnt : zs.countP (· < v) = j := by
        rw [hzs, ← hjv, count_below HOK.out hj n (Nat.le_refl _)]; omega
      rw [hcnt] at HB
      obtain ⟨b2, o2, rfl, hl2, hfr⟩ := gf (by omega)
      obtain ⟨vn, vd, d0, d1, d2, gn, gd⟩ := hfr j hj
      have hmq : massQ F j = ((F j).2.1, numOf (F j).2.2.1, numOf (F j).2.2.2) := rfl
      have hres : r = .tuple #[.agg #[.bool (F j).2.1, .string (F j).2.2.1, .string (F j).2.2.2], .bool true] := by
        rw [Hr.out]; unfold probRes
        rw [if_pos HV.out, hf]
      obtain ⟨⟨pv, rb, rx, ry⟩, hF⟩ : ∃ t, t = F j := ⟨_, rfl⟩
      rw [← hF] at hmq hres hpo
      rw [hmq] at d0 gn gd
      simp only at d0 gn gd hres hpo
      obtain ⟨A5, c5, rfl, _, _, _⟩ := RowF.open gn
      obtain ⟨A6, c6, rfl, _, _, _⟩ := RowF.open gd
      have CR : Hid (∀ W', Below W.heap.size W W' → _) := Lib.hid fun W' hW => ratF_all rb _ _ (numOf rx) (numOf ry) W' (staysP.below _ _ HP.out (hB1.trans (hW.mono hB1.size))) (gn.below hW (Nat.le_refl _)) (gd.below hW (Nat.le_refl _))
      rw [ratRes_valid hpo.2.2.1] at CR
      have Hres := Lib.hid hres
      have i1 : (0 : Int) ≤ (j : Int) := by omega
      have i2 : (j : Int) < (n : Int) := by omega
      clear hf hres hcnt hzs hzl gi gf gn gd hmq hF hjv hpo hfr
      go_wp2_with (first
        | (go_at_call 69; refine HB.out.mono ?_; rintro e w2 ⟨rfl, q, rfl⟩; have hB2 := below_drewN q hB1; have hR2 : Box (W.drewN q) _ _ _ := hR1)
        | (go_at_call 66; refine (CR.out _ (below_drewN _ (Below.refl _ W))).mono ?_; rintro e w4 ⟨rfl, hb4⟩; have hR4 := hR2.below hb4 hR2.lt; have hB4 := hB2.trans (hb4.mono hB2.size); obtain ⟨z0, z1, z2, f0, f1, f2⟩ := hR4.three))
      obtain ⟨m0, m1, m2⟩ := hR4.put3 (.bool rb) (.string rx) (.string ry)
      refine bodyPost_ret (v := .tuple #[.agg #[.bool rb, .string rx, .string ry], .bool true]) (by simp [results, Tryz.results23, go_sem, m0, m1, m2]; done) rfl ⟨by rw [Hres.out], ?_⟩
      exact below_put3 hB4 (by omega) _ _ _

end Go.Proofs.YtlfghhmphgidjaaGreatDoor
