/-
  The model's product of two natural numbers: a made row, written in place.
-/
import Derived.Test.YtdjldhkmcmbiiaaDoorAddSub
namespace Go.Proofs.YtdjldhkmcmbiiaaDoor
open Go.RowKit Num

theorem set_val (b : Nat) (xs : List Nat) (p v : Nat) (h : p < xs.length) : val b (xs.set p v) + b ^ p * xs[p] = val b xs + b ^ p * v := by
  have h1 := val_split b (xs.set p v) p (by simp; omega)
  have h2 := val_split b xs p (by omega)
  have h3 := val_drop_step b (xs.set p v) p (by simpa using h)
  have h4 := val_drop_step b xs p h
  rw [List.getElem_set_self] at h3
  rw [List.take_set_of_le (Nat.le_refl _)] at h1
  rw [List.drop_set_of_lt (Nat.lt_add_one _)] at h3
  rw [h1, h3, h2, h4]
  simp only [Nat.mul_add]
  omega

theorem Dig.set {b : Nat} {xs : List Nat} (h : Dig b xs) (p v : Nat) (hv : v < b) : Dig b (xs.set p v) := by
  intro x hx
  rcases List.mem_or_eq_of_mem_set hx with hx | rfl
  · exact h x hx
  · exact hv

/-- The step of a row of a product. -/
theorem mul_step {b p v v' c o D E d' c' base : Nat} {X : Nat} (h : v + c * b ^ p = base + X) (hd : c + o + D * E = d' + b * c') (hv : v' + b ^ p * o = v + b ^ p * d') :
    v' + c' * b ^ (p + 1) = base + (X + b ^ p * (D * E)) := by
  have h2 : b ^ p * (c + o + D * E) = b ^ p * (d' + b * c') := by rw [hd]
  simp only [Nat.mul_add] at h2
  rw [Nat.mul_comm (b ^ p) c, show b ^ p * (b * c') = c' * b ^ (p + 1) from by rw [Nat.pow_succ, ← Nat.mul_assoc, Nat.mul_comm]] at h2
  omega

/-- A digit beyond the value's bound is 0 .. so the row has room. -/
theorem mul_room {b v c p n N : Nat} (hb : 2 ≤ b) (hc : 0 < c) (h : v + c * b ^ p = N) (hN : N < b ^ n) : p < n := by
  have : b ^ p < b ^ n := by
    have : b ^ p ≤ c * b ^ p := Nat.le_mul_of_pos_left _ hc
    omega
  exact (Nat.pow_lt_pow_iff_right (by omega)).1 this

/-- What the digits up to i of x times y come to. -/
theorem mul_bound (b x y i : Nat) (hb : 2 ≤ b) : x % b ^ i * y < b ^ (ln b x + ln b y) ∨ ln b y = 0 := by
  by_cases hy : ln b y = 0
  · exact .inr hy
  · left
    have h1 : x % b ^ i ≤ x := Nat.mod_le _ _
    have h2 := lt_pow_ln b x hb
    have h3 := lt_pow_ln b y hb
    have hy0 : 0 < y := by
      rcases Nat.eq_zero_or_pos y with rfl | h
      · exact absurd (ln_zero b) hy
      · exact h
    rw [Nat.pow_add]
    calc x % b ^ i * y < b ^ ln b x * y := Nat.mul_lt_mul_of_pos_right (by omega) hy0
      _ ≤ b ^ ln b x * b ^ ln b y := Nat.mul_le_mul_left _ (by omega)

theorem mul_next (b x y i : Nat) (hb : 2 ≤ b) : x % b ^ (i + 1) * y = x % b ^ i * y + b ^ i * (dg b x i * y) := by
  rw [mod_pow_succ b x i hb, Nat.add_mul, Nat.mul_assoc]

theorem mul_inner (b i D y k : Nat) (hb : 2 ≤ b) : b ^ i * (D * (y % b ^ (k + 1))) = b ^ i * (D * (y % b ^ k)) + b ^ (i + k) * (D * dg b y k) := by
  rw [mod_pow_succ b y k hb, Nat.mul_add, Nat.mul_add, Nat.pow_add]
  congr 1
  rw [Nat.mul_assoc, ← Nat.mul_assoc D, Nat.mul_comm D, Nat.mul_assoc]

theorem made_own {k : IntKind} {w0 : World} {base : Nat} {e : TypeId} {v : Value} {n : Nat} (h : w0.ownsRow base e 1 v n (madeCells #[Value.int k 0] n).toList) : w0.ownsRow base e 1 v n ((List.replicate n 0).map fun x => .int k (x : Nat)) := by
  rw [toList_madeCells_one] at h
  simpa using h

theorem own_stored {k : IntKind} {w : World} {base g : Nat} {e : TypeId} {n cap : Nat} {xs : List Nat} {j : Nat} {x : Int} {y : Nat} (hxy : x = (y : Nat)) (h : w.ownsRow base e 1 (.slice (some ⟨g, 0, none⟩) n cap) n (xs.map fun x => .int k (x : Nat))) :
    (w.setCell ⟨g, j, none⟩ (.int k x)).ownsRow base e 1 (.slice (some ⟨g, 0, none⟩) n cap) n ((xs.set j y).map fun x => .int k (x : Nat)) := by
  subst hxy
  rw [List.map_set]
  exact (h.stored j _).1

theorem own_cell {k : IntKind} {w : World} {base g : Nat} {e : TypeId} {n cap : Nat} {xs : List Nat} {j : Nat} (h : w.ownsRow base e 1 (.slice (some ⟨g, 0, none⟩) n cap) n (xs.map fun x => .int k (x : Nat))) (hl : xs.length = n) (hj : j < n) :
    w.cell? ⟨g, j, none⟩ = some (.int k (xs.getD j 0 : Nat)) := by
  rw [h.cellAt j (by omega), List.getElem?_map, List.getElem?_eq_getElem (by omega), getD_eq _ _ (by omega)]
  rfl

theorem prod_bd (D E : Nat) (hD : D < 10000) (hE : E < 10000) : (0 : Int) ≤ (D : Int) * (E : Int) ∧ (D : Int) * (E : Int) ≤ 99980001 := by
  have h : D * E ≤ 9999 * 9999 := Nat.mul_le_mul (by omega) (by omega)
  rw [← Int.natCast_mul]
  omega

set_option maxHeartbeats 1600000 in
theorem mulNat_any (va vb : Value) (x y : Nat) (w : World) (ha : Nums 3 .i64 10000 w va x) (hb : Nums 3 .i64 10000 w vb y) (hlx : ln 10000 x ≤ 1099511627776) (hly : ln 10000 y ≤ 1099511627776) :
    Calls Tryd.prog 60 #[va, vb] w fun e w' => (∃ v, e = .returned v ∧ Nums 3 .i64 10000 w' v (x * y)) ∧ Below w.heap.size w w' := by
  obtain ⟨i0, hi, hz0, hz1, hz2⟩ := info_parts Tryd.info_int
  obtain ⟨Aa, ca, rfl, hca, hca', hA⟩ := RowF.open ha
  obtain ⟨Ab, cb, rfl, hcb, hcb', hB⟩ := RowF.open hb
  clear ha hb
  have HA : Hid (RowA .i64 w Aa (ln 10000 x) (dg 10000 x)) := Lib.hid hA; clear hA
  have HB : Hid (RowA .i64 w Ab (ln 10000 y) (dg 10000 y)) := Lib.hid hB; clear hB
  obtain ⟨la, hla⟩ : ∃ la, la = ln 10000 x := ⟨_, rfl⟩
  obtain ⟨lb, hlb⟩ : ∃ lb, lb = ln 10000 y := ⟨_, rfl⟩
  rw [← hla] at HA hca hlx ⊢
  rw [← hlb] at HB hcb hly ⊢
  have Hla := Lib.hid hla; clear hla
  have Hlb := Lib.hid hlb; clear hlb
  go_enter Tryd.func60, Tryd.ntmps60
  go_wp2_with (at_make; refine wpList_make_full _ rfl _ _ 51 rfl w.heap.size 3 i0 (.int .i64 0) 1 Tryd.underlying51 hi hz0 hz1 _ _ _ _ (la + lb + 1) rfl rfl (by omega) (by omega) ?b2 ?b3 (Nat.le_refl _) ?_)
  case b2 => rw [hz2]; omega
  case b3 => unfold maxLen; omega
  intro w0 hown0 hgrow0
  have hown1 := made_own hown0
  have hbel0 : Below w.heap.size w w0 := (Below.refl _ _).grown hgrow0 (Nat.le_refl _) (fun k h => by cases h)
  clear hown0 hgrow0
  go_wp2_with fail
  go_loopw [19] (fun i wr => ∃ (k : Nat) (xs : List Nat), i = .int .i64 (k : Nat) ∧ k ≤ la ∧ xs.length = la + lb + 1 ∧ Dig 10000 xs ∧ val 10000 xs = x % 10000 ^ k * y ∧ wr.ownsRow w.heap.size 3 1 (.slice (some ⟨w.heap.size, 0, none⟩) (la + lb + 1) (la + lb + 1)) (la + lb + 1) (xs.map fun x => .int .i64 (x : Nat)) ∧ Below w.heap.size w wr) (fun i _ => la - (intOf i).toNat)
  case atStart => exact ⟨0, _, rfl, by omega, by simp, (fun x hx => by rw [List.eq_of_mem_replicate hx]; omega), by rw [val_replicate_zero]; simp [Nat.mod_one], hown1, hbel0⟩
  case round =>
    clear hown1 hbel0
    obtain ⟨k, xs, rfl, hkl, hlen, hdig, hval, hown, hbel⟩ := hrel
    have Hlen := Lib.hid hlen; clear hlen
    have Hdig := Lib.hid hdig; clear hdig
    have Hval := Lib.hid hval; clear hval
    by_cases hka : k < la
    · obtain ⟨ba, oa, rfl, hcA⟩ := (HA.out.below hbel (Nat.le_refl _)).at_ hka
      have hdA := dg_lt 10000 x k (by omega)
      obtain ⟨D, hD⟩ : ∃ D, D = dg 10000 x k := ⟨_, rfl⟩
      rw [← hD] at hcA hdA
      have HD := Lib.hid hD; clear hD
      go_wp2_with fail
      obtain ⟨wo, rfl⟩ : ∃ wo : World, wo = wr := ⟨_, rfl⟩
      go_loopw [8, 9] (fun c j wr => ∃ (cn j' : Nat) (ys : List Nat), c = .int .i64 (cn : Nat) ∧ cn ≤ 9999 ∧ j = .int .i64 (j' : Nat) ∧ j' ≤ la + lb ∧ ys.length = la + lb + 1 ∧ Dig 10000 ys ∧ val 10000 ys + cn * 10000 ^ (k + j') = x % 10000 ^ k * y + 10000 ^ k * (D * (y % 10000 ^ j')) ∧ wr.ownsRow w.heap.size 3 1 (.slice (some ⟨w.heap.size, 0, none⟩) (la + lb + 1) (la + lb + 1)) (la + lb + 1) (ys.map fun x => .int .i64 (x : Nat)) ∧ Below w.heap.size w wr) (fun _ j _ => la + lb + 1 - (intOf j).toNat)
      case atStart => exact ⟨0, 0, xs, rfl, by omega, rfl, by omega, Hlen.out, Hdig.out, by rw [Hval.out]; simp [Nat.mod_one], hown, hbel⟩
      case round =>
        clear hown hbel hcA
        obtain ⟨cn, j, ys, rfl, hcn, rfl, hjl, hlen, hdig, hval, hown, hbel⟩ := hrel
        have hsz := hbel.size
        obtain ⟨o, ho⟩ : ∃ o, o = ys.getD (k + j) 0 := ⟨_, rfl⟩
        have hroom : (j < lb ∨ 0 < cn) → k + j < la + lb + 1 ∧ (¬ j < lb → k + j < la + lb) := by
          intro h
          by_cases hj : j < lb
          · exact ⟨by omega, fun h => absurd hj h⟩
          · have hyj : y % 10000 ^ j = y := mod_pow_ln _ y j (by omega) (by rw [← Hlb.out]; omega)
            rw [hyj, HD.out, ← mul_next 10000 x y k (by omega)] at hval
            rcases mul_bound 10000 x y (k + 1) (by omega) with hN | hN
            · have := mul_room (by omega) (by omega) hval hN
              rw [← Hla.out, ← Hlb.out] at this
              omega
            · have hy0 : y = 0 := (ln_eq_zero 10000 y (by omega)).1 hN
              rw [hy0] at hval
              have h1 : 0 < cn * 10000 ^ (k + j) := Nat.mul_pos (by omega) (Nat.pow_pos (by omega))
              simp at hval
              omega
        have hend : ¬ (j < lb ∨ 0 < cn) → val 10000 ys = x % 10000 ^ (k + 1) * y := by
          intro h
          have hyj : y % 10000 ^ j = y := mod_pow_ln _ y j (by omega) (by rw [← Hlb.out]; omega)
          rw [hyj, HD.out, ← mul_next 10000 x y k (by omega), show cn = 0 from by omega] at hval
          omega
        have Hroom := Lib.hid hroom; clear hroom
        have Hend := Lib.hid hend; clear hend
        have Hlen := Lib.hid hlen; clear hlen
        have Hdig := Lib.hid hdig; clear hdig
        have Hval := Lib.hid hval; clear hval
        have hstep : ∀ d' c' E : Nat, k + j < la + lb + 1 → cn + o + D * E = d' + 10000 * c' → E = dg 10000 y j → val 10000 (ys.set (k + j) d') + c' * 10000 ^ (k + (j + 1)) = x % 10000 ^ k * y + 10000 ^ k * (D * (y % 10000 ^ (j + 1))) := by
          intro d' c' E hp hd hE
          rw [mul_inner 10000 k D y j (by omega), ← Nat.add_assoc k j 1, ← hE]
          refine mul_step Hval.out hd ?_
          have := set_val 10000 ys (k + j) d' (by rw [Hlen.out]; exact hp)
          rw [← getD_eq ys (k + j) (by rw [Hlen.out]; exact hp), ← ho] at this
          exact this
        have Hstep := Lib.hid hstep; clear hstep
        by_cases hgo : j < lb ∨ 0 < cn
        · obtain ⟨hr1, hr2⟩ := Hroom.out hgo
          have hcO : wr.cell? ⟨w.heap.size, k + j, none⟩ = some (.int .i64 (o : Nat)) := by rw [ho]; exact own_cell hown Hlen.out hr1
          have hfO : wr.frozen? ⟨w.heap.size, k + j, none⟩ = false := hown.frozenAt (k + j)
          have hob : o < 10000 := by rw [ho, getD_eq _ _ (by rw [Hlen.out]; exact hr1)]; exact Hdig.out.get _ _
          have Ho := Lib.hid ho; clear ho
          by_cases hjb : j < lb
          · obtain ⟨bb, ob, rfl, hcB⟩ := (HB.out.below hbel (Nat.le_refl _)).at_ hjb
            have hdB := dg_lt 10000 y j (by omega)
            obtain ⟨E, hE⟩ : ∃ E, E = dg 10000 y j := ⟨_, rfl⟩
            rw [← hE] at hcB hdB
            have HE := Lib.hid hE; clear hE
            obtain ⟨hp0, hp1⟩ := prod_bd D E hdA hdB
            have hbel2 := hbel.setCell (p := ⟨w.heap.size, k + j, none⟩) (Nat.le_refl _) (.int .i64 (((cn : Int) + o + D * E) % 10000))
            have hown2 := own_stored (j := k + j) (x := ((cn : Int) + o + D * E) % 10000) (y := (cn + o + D * E) % 10000) (by simp) hown
            have hc2 : ((cn : Int) + o + D * E) / 10000 = (((cn + o + D * E) / 10000 : Nat) : Int) := by simp
            have Hc2 := Lib.hid hc2; clear hc2
            have hc3 : (cn + o + D * E) / 10000 ≤ 9999 := by
              have := Nat.mul_le_mul (Nat.le_of_lt_succ hdA) (Nat.le_of_lt_succ hdB)
              omega
            have Hc3 := Lib.hid hc3; clear hc3
            clear hown hbel
            go_wp2_with fail
            go_roundw
            case rel => exact ⟨(cn + o + D * E) / 10000, j + 1, _, by rw [Hc2.out], Hc3.out, by go_num, by omega, by rw [List.length_set]; exact Hlen.out, Dig.set (b := 10000) Hdig.out _ _ (Nat.mod_lt _ (by omega)), Hstep.out _ _ E hr1 (by omega) HE.out, hown2, hbel2⟩
            case measure => simp [intOf]; omega
          · have hbel2 := hbel.setCell (p := ⟨w.heap.size, k + j, none⟩) (Nat.le_refl _) (.int .i64 (((cn : Int) + o) % 10000))
            have hown2 := own_stored (j := k + j) (x := ((cn : Int) + o) % 10000) (y := (cn + o) % 10000) (by omega) hown
            have hc0 : 0 < cn := by omega
            clear hgo
            have HE : Hid (0 = dg 10000 y j) := Lib.hid (dg_high 10000 y j (by omega) (by rw [← Hlb.out]; omega)).symm
            clear hown hbel
            go_wp2_with fail
            go_roundw
            case rel => exact ⟨(cn + o) / 10000, j + 1, _, by go_num, by omega, by go_num, by omega, by rw [List.length_set]; exact Hlen.out, Dig.set (b := 10000) Hdig.out _ _ (Nat.mod_lt _ (by omega)), Hstep.out _ _ 0 hr1 (by omega) HE.out, hown2, hbel2⟩
            case measure => simp [intOf]; omega
        · have hjb : ¬ j < lb := by omega
          obtain rfl : cn = 0 := by omega
          have He := Lib.hid (Hend.out hgo)
          clear hgo
          go_wp2_with fail
          go_roundw
          case rel => exact ⟨k + 1, ys, by go_num, by omega, Hlen.out, Hdig.out, He.out, hown, hbel⟩
          case measure => simp [intOf]; omega
    · obtain rfl : k = la := by omega
      go_wp2_with (go_at_call 94; refine (trim_any _ xs _ Hdig.out (by rw [Hlen.out]; exact rowF_own xs Hlen.out hown)).mono ?_; rintro e w' ⟨⟨v', rfl, hv'⟩, rfl⟩)
      go_ret
      refine ⟨⟨_, rfl, ?_⟩, hbel⟩
      have e1 := Hval.out
      rw [mod_pow_ln _ x k (by omega) (by rw [← Hla.out]; omega)] at e1
      rwa [e1] at hv'

end Go.Proofs.YtdjldhkmcmbiiaaDoor
