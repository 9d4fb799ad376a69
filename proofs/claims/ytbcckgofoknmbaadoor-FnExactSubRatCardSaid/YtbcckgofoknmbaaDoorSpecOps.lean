/-
  Several texts in one: SpecAdd, SpecSub, SpecMul, SpecDiv.
-/
import Derived.Test.YtbcckgofoknmbaaDoorSumMulQ
import Derived.Test.YtbcckgofoknmbaaDoorLawComps
import Derived.Test.YtbcckgofoknmbaaDoorM2
/-
  The model's AddRat, SubRat, MulRat, DivRat, from what their operation on fractions comes to.
-/
namespace Go.Proofs.YtbcckgofoknmbaaDoor
open Go.RowKit Num

/-- A fraction in lowest terms as a Rat. -/
theorem rat_of_low (sg : Bool) (vn vd : Value) (N D : Nat) (w : World) (hn : Nums 3 .i64 10000 w vn N) (hd : Nums 3 .i64 10000 w vd D) (h0 : 0 < D) (hg : Nat.gcd N D = 1) (hs : sg = true → 0 < N) (hln : ln 10000 N ≤ 549755813888) (hld : ln 10000 D ≤ 549755813888) :
    Calls Tryd.prog 10 #[.agg #[.bool sg, vn, vd]] w fun e w' => e = .returned (ratRes sg N D) ∧ Below w.heap.size w w' :=
  rat_low sg vn vd N D sg N D w hn hd h0 hln hld (by cases sg with
    | false => rfl
    | true => simp [hs rfl]) (by rw [hg, Nat.div_one]) (by rw [hg, Nat.div_one])

/-- What an operation on fractions owes. -/
structure LowQ (sg : Bool) (N D : Nat) : Prop where
  pos : 0 < D
  gcd : Nat.gcd N D = 1
  sign : sg = true → 0 < N
  lnN : ln 10000 N ≤ 549755813888
  lnD : ln 10000 D ≤ 549755813888

end Go.Proofs.YtbcckgofoknmbaaDoor
/-
  The model's SubRat, from what its operation on fractions comes to.
-/
namespace Go.Proofs.YtbcckgofoknmbaaDoor
open Go.RowKit Num

set_option maxRecDepth 100000 in
set_option maxHeartbeats 1600000 in
theorem specSub_no (b1 : Bool) (x1 y1 : ByteArray) (b2 : Bool) (x2 y2 : ByteArray) (w : World) (hx1 : x1.size ≤ 9223372036854775807) (hy1 : y1.size ≤ 9223372036854775807) (hx2 : x2.size ≤ 9223372036854775807) (hy2 : y2.size ≤ 9223372036854775807) (h : validR b1 x1 y1 = false ∨ validR b2 x2 y2 = false) :
    Calls Tryd.prog 5 #[.agg #[.bool b1, .string x1, .string y1], .agg #[.bool b2, .string x2, .string y2]] w fun e w' => e = .returned noRat ∧ Below w.heap.size w w' := by
  have C1 : Hid (∀ W, _) := Lib.hid fun W => validS_any b1 x1 y1 W hx1 hy1
  have C2 : Hid (∀ W, _) := Lib.hid fun W => validS_any b2 x2 y2 W hx2 hy2
  obtain ⟨r1, hr1⟩ : ∃ r, r = validR b1 x1 y1 := ⟨_, rfl⟩
  obtain ⟨r2, hr2⟩ : ∃ r, r = validR b2 x2 y2 := ⟨_, rfl⟩
  rw [← hr1] at C1 h
  rw [← hr2] at C2 h
  clear hr1 hr2 hx1 hy1 hx2 hy2
  have hA := ((Box.new w 25 #[.bool b1, .string x1, .string y1]).alloc (.cells #[.bool b2, .string x2, .string y2] 25)).alloc (.cells #[.bool false, .string ⟨#[]⟩, .string ⟨#[]⟩] 25)
  have hQ := (Box.new (w.alloc (.cells #[.bool b1, .string x1, .string y1] 25)) 25 #[.bool b2, .string x2, .string y2]).alloc (.cells #[.bool false, .string ⟨#[]⟩, .string ⟨#[]⟩] 25)
  have hR := Box.new ((w.alloc (.cells #[.bool b1, .string x1, .string y1] 25)).alloc (.cells #[.bool b2, .string x2, .string y2] 25)) 25 #[.bool false, .string ⟨#[]⟩, .string ⟨#[]⟩]
  have hB := (((Below.refl w.heap.size w).alloc (Nat.le_refl _) (.cells #[.bool b1, .string x1, .string y1] 25)).alloc (by simp) (.cells #[.bool b2, .string x2, .string y2] 25)).alloc (by simp; omega) (.cells #[.bool false, .string ⟨#[]⟩, .string ⟨#[]⟩] 25)
  have e0 : ∀ (W : World) (o : Obj), (W.alloc o).heap.size = W.heap.size + 1 := fun W o => by simp
  rw [e0] at hQ
  rw [e0, e0] at hR
  clear e0
  obtain ⟨r0', r1', r2', _, _, _⟩ := hA.three
  obtain ⟨s0, s1, s2, _, _, _⟩ := hQ.three
  cases r1 with
  | false =>
    clear h
    go_enter Tryd.func5, Tryd.ntmps5
    go_wp2_with (go_at_call_of 9 (Value.agg #[.bool b1, .string x1, .string y1]); refine (C1.out _).mono ?_; rintro e w1 ⟨rfl, hb⟩; have HB := Lib.hid (hB.trans (hb.mono hB.size)); have hR1 := hR.below hb hR.lt; obtain ⟨t0, t1, t2, f0, f1, f2⟩ := hR1.three; clear hb)
    obtain ⟨m0, m1, m2⟩ := hR1.put3 (.bool false) (.string ⟨#[]⟩) (.string ⟨#[]⟩)
    refine bodyPost_ret (v := noRat) (by simp [results, Tryd.results5, go_sem, noRat, m0, m1, m2]; done) rfl ⟨rfl, ?_⟩
    exact below_put3 HB.out (by omega) _ _ _
  | true =>
    obtain rfl : r2 = false := by simpa using h
    clear h
    go_enter Tryd.func5, Tryd.ntmps5
    go_wp2_with (first
      | (go_at_call_of 9 (Value.agg #[.bool b1, .string x1, .string y1]); refine (C1.out _).mono ?_; rintro e w1 ⟨rfl, hb⟩; replace hB := hB.trans (hb.mono hB.size); replace hQ := hQ.below hb hQ.lt; replace hR := hR.below hb hR.lt; clear hb s0 s1 s2; obtain ⟨s0, s1, s2, _, _, _⟩ := hQ.three)
      | (go_at_call_of 9 (Value.agg #[.bool b2, .string x2, .string y2]); refine (C2.out _).mono ?_; rintro e w2 ⟨rfl, hb⟩; replace hB := hB.trans (hb.mono hB.size); replace hR := hR.below hb hR.lt; obtain ⟨t0, t1, t2, f0, f1, f2⟩ := hR.three; clear hb))
    obtain ⟨m0, m1, m2⟩ := hR.put3 (.bool false) (.string ⟨#[]⟩) (.string ⟨#[]⟩)
    refine bodyPost_ret (v := noRat) (by simp [results, Tryd.results5, go_sem, noRat, m0, m1, m2]; done) rfl ⟨rfl, ?_⟩
    exact below_put3 hB (by omega) _ _ _

set_option maxRecDepth 100000 in
set_option maxHeartbeats 1600000 in
theorem specSub_yes (b1 : Bool) (x1 y1 : ByteArray) (b2 : Bool) (x2 y2 : ByteArray) (w : World) (hx1 : x1.size ≤ 9223372036854775807) (hy1 : y1.size ≤ 9223372036854775807) (hx2 : x2.size ≤ 9223372036854775807) (hy2 : y2.size ≤ 9223372036854775807) (h1 : validR b1 x1 y1 = true) (h2 : validR b2 x2 y2 = true) (sg : Bool) (N D : Nat) (hl : LowQ sg N D)
    (hop : ∀ (v1 v2 v3 v4 : Value) (W : World), Nums 3 .i64 10000 W v1 (numOf x1) → Nums 3 .i64 10000 W v2 (numOf y1) → Nums 3 .i64 10000 W v3 (numOf x2) → Nums 3 .i64 10000 W v4 (numOf y2) →
      Calls Tryd.prog 11 #[.agg #[.bool b1, v1, v2], .agg #[.bool (!b2 && decide (0 < numOf x2)), v3, v4]] W fun e w' => (∃ v, e = .returned v ∧ IsQ w' v sg N D) ∧ Below W.heap.size W w') :
    Calls Tryd.prog 5 #[.agg #[.bool b1, .string x1, .string y1], .agg #[.bool b2, .string x2, .string y2]] w fun e w' => e = .returned (ratRes sg N D) ∧ Below w.heap.size w w' := by
  have C1 : Hid (∀ W, _) := Lib.hid fun W => validS_any b1 x1 y1 W hx1 hy1
  have C2 : Hid (∀ W, _) := Lib.hid fun W => validS_any b2 x2 y2 W hx2 hy2
  rw [h1] at C1
  rw [h2] at C2
  obtain ⟨m1, m2, m3, m4⟩ := validR_num h1
  obtain ⟨k1, k2, k3, k4⟩ := validR_num h2
  have CQ1 : Hid (∀ W, _) := Lib.hid fun W => toQ_any b1 x1 y1 W m1 m2
  have CQ2 : Hid (∀ W, _) := Lib.hid fun W => toQ_any b2 x2 y2 W k1 k2
  have CC := Lib.hid hop
  have CR : Hid (∀ (vn vd : Value) (W : World), Nums 3 .i64 10000 W vn N → Nums 3 .i64 10000 W vd D → _) := Lib.hid fun vn vd W g1 g2 => rat_of_low sg vn vd N D W g1 g2 hl.pos hl.gcd hl.sign hl.lnN hl.lnD
  obtain ⟨rb, rx, ry, rc, hres⟩ := ratRes_shape sg N D
  rw [hres] at CR ⊢
  obtain ⟨nb, hnb⟩ : ∃ nb, nb = (!b2 && decide (0 < numOf x2)) := ⟨_, rfl⟩
  have CN : Hid (∀ (vn vd : Value) (W : World), Nums 3 .i64 10000 W vn (numOf x2) → Nums 3 .i64 10000 W vd (numOf y2) → _) := Lib.hid fun vn vd W g1 g2 => negQ_any b2 vn vd (numOf x2) (numOf y2) W g1 g2
  rw [← hnb] at CC CN
  clear hnb
  clear h1 h2 hop m1 m2 m3 m4 k1 k2 k3 k4 hx1 hy1 hx2 hy2 hl hres
  have hA := ((Box.new w 25 #[.bool b1, .string x1, .string y1]).alloc (.cells #[.bool b2, .string x2, .string y2] 25)).alloc (.cells #[.bool false, .string ⟨#[]⟩, .string ⟨#[]⟩] 25)
  have hQ := (Box.new (w.alloc (.cells #[.bool b1, .string x1, .string y1] 25)) 25 #[.bool b2, .string x2, .string y2]).alloc (.cells #[.bool false, .string ⟨#[]⟩, .string ⟨#[]⟩] 25)
  have hR := Box.new ((w.alloc (.cells #[.bool b1, .string x1, .string y1] 25)).alloc (.cells #[.bool b2, .string x2, .string y2] 25)) 25 #[.bool false, .string ⟨#[]⟩, .string ⟨#[]⟩]
  have hB := (((Below.refl w.heap.size w).alloc (Nat.le_refl _) (.cells #[.bool b1, .string x1, .string y1] 25)).alloc (by simp) (.cells #[.bool b2, .string x2, .string y2] 25)).alloc (by simp; omega) (.cells #[.bool false, .string ⟨#[]⟩, .string ⟨#[]⟩] 25)
  have e0 : ∀ (W : World) (o : Obj), (W.alloc o).heap.size = W.heap.size + 1 := fun W o => by simp
  rw [e0] at hQ
  rw [e0, e0] at hR
  clear e0
  obtain ⟨r0', r1', r2', _, _, _⟩ := hA.three
  obtain ⟨s0, s1, s2, _, _, _⟩ := hQ.three
  go_enter Tryd.func5, Tryd.ntmps5
  go_upto_region 3 with (first
    | (go_at_call_of 9 (Value.agg #[.bool b1, .string x1, .string y1]); refine (C1.out _).mono ?_; rintro e w1 ⟨rfl, hb⟩; replace hB := hB.trans (hb.mono hB.size); replace hA := hA.below hb hA.lt; replace hQ := hQ.below hb hQ.lt; replace hR := hR.below hb hR.lt; clear hb s0 s1 s2 r0' r1' r2'; obtain ⟨s0, s1, s2, _, _, _⟩ := hQ.three)
    | (go_at_call_of 9 (Value.agg #[.bool b2, .string x2, .string y2]); refine (C2.out _).mono ?_; rintro e w2 ⟨rfl, hb⟩; replace hB := hB.trans (hb.mono hB.size); replace hA := hA.below hb hA.lt; replace hQ := hQ.below hb hQ.lt; replace hR := hR.below hb hR.lt; clear hb s0 s1 s2))
  have HB := Lib.hid hB
  clear hB C1 C2
  have hsz : w.heap.size + 1 + 1 ≤ w2.heap.size := by have := hR.lt; omega
  have hq0 : Boxy w2 (w.heap.size + 1 + 1) 25 := ⟨_, _, _, hR⟩
  go_region_held3 (fun w' => w'.cell? ⟨w.heap.size, 0, none⟩ = some (.bool b1) ∧ w'.cell? ⟨w.heap.size, 1, none⟩ = some (.string x1) ∧ w'.cell? ⟨w.heap.size, 2, none⟩ = some (.string y1) ∧ w'.cell? ⟨w.heap.size + 1, 0, none⟩ = some (.bool b2) ∧ w'.cell? ⟨w.heap.size + 1, 1, none⟩ = some (.string x2) ∧ w'.cell? ⟨w.heap.size + 1, 2, none⟩ = some (.string y2) ∧ Below (w.heap.size + 1 + 1) w2 w' ∧ Boxy w' (w.heap.size + 1 + 1) 25)
    ((refine hold6B hA hQ (by omega) (by omega) ?_ ?_ <;> first | exact (Below.refl _ w2).drew | exact hq0.below (Below.refl _ w2).drew | (refine stepB hsz (hold6B_below (by assumption)) ?_; assumption) | (refine Boxy.below (hold6B_boxy (by assumption)) ?_; assumption) | exact newB hsz (hold6B_below (by assumption)) _ | exact boxy_alloc (hold6B_boxy (by assumption)) _ | exact below_put3 (hold6B_below (by assumption)) (Nat.le_refl _) _ _ _ | exact Boxy.put (hold6B_boxy (by assumption)) _ _ _))
    (first
      | (go_at_call_of 12 (Value.agg #[.bool b1, .string x1, .string y1]); refine (CQ1.out _).mono ?_; rintro e w3 ⟨⟨v, rfl, vn1, vd1, rfl, hn1, hd1⟩, hb3⟩; have Hn1 := Lib.hid hn1; have Hd1 := Lib.hid hd1; clear hn1 hd1)
      | (go_at_call_of 12 (Value.agg #[.bool b2, .string x2, .string y2]); refine (CQ2.out _).mono ?_; rintro e w4 ⟨⟨v, rfl, vn2, vd2, rfl, hn2, hd2⟩, hb4⟩; have Hn1' := Lib.hid (Hn1.out.below hb4 (Nat.le_refl _)); have Hd1' := Lib.hid (Hd1.out.below hb4 (Nat.le_refl _)); have Hn2 := Lib.hid hn2; have Hd2 := Lib.hid hd2; clear hn2 hd2)
      | (go_at_call 13; refine (CN.out vn2 vd2 _ Hn2.out Hd2.out).mono ?_; rintro e w7 ⟨⟨v, rfl, vn3, vd3, rfl, hn3, hd3⟩, hb7⟩; have Hn1'' := Lib.hid (Hn1'.out.below hb7 (Nat.le_refl _)); have Hd1'' := Lib.hid (Hd1'.out.below hb7 (Nat.le_refl _)); have Hn3 := Lib.hid hn3; have Hd3 := Lib.hid hd3; clear hn3 hd3)
      | (go_at_call 11; refine (CC.out vn1 vd1 vn3 vd3 _ Hn1''.out Hd1''.out Hn3.out Hd3.out).mono ?_; rintro e w5 ⟨⟨v, rfl, vN, vD, rfl, hN, hDD⟩, hb5⟩; have HN := Lib.hid hN; have HDD := Lib.hid hDD; clear hN hDD)
      | (go_at_call 10; refine (CR.out vN vD _ HN.out HDD.out).mono ?_; rintro e w6 ⟨rfl, hb6⟩; obtain ⟨q0, q1, q2, hz⟩ := Boxy.below (hold6B_boxy (by assumption)) hb6; obtain ⟨z0, z1, z2, f0, f1, f2⟩ := hz.three))
  all_goals go_wp2_with fail
  all_goals obtain ⟨m0, m1, m2⟩ := hz.put3 (.bool rb) (.string rx) (.string ry)
  all_goals refine bodyPost_ret (v := .tuple #[.agg #[.bool rb, .string rx, .string ry], .bool rc]) (by simp [results, Tryd.results5, go_sem, m0, m1, m2]; done) rfl ⟨rfl, ?_⟩
  all_goals exact under HB.out (hold6B_below (by assumption))

end Go.Proofs.YtbcckgofoknmbaaDoor
/-
  The model's MulRat, from what its operation on fractions comes to.
-/
namespace Go.Proofs.YtbcckgofoknmbaaDoor
open Go.RowKit Num

end Go.Proofs.YtbcckgofoknmbaaDoor
/-
  The model's DivRat, from what its operation on fractions comes to.
-/
namespace Go.Proofs.YtbcckgofoknmbaaDoor
open Go.RowKit Num

end Go.Proofs.YtbcckgofoknmbaaDoor
