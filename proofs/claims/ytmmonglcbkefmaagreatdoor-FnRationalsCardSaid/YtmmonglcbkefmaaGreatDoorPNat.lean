/-
  Several texts in one: MulN, AddSubN.
-/
import Derived.Test.YtmmonglcbkefmaaGreatDoorPGcd
/-
  The program's product of two numbers.
-/
namespace Go.Proofs.YtmmonglcbkefmaaGreatDoor
open Go.RowKit Num

theorem Nums.block_lt' {w : World} {v : Value} {x g : Nat} (h : Nums 54 .u64 WB w v x) (h0 : 0 < ln WB x) (hg : v.ownBlock = some g) : g < w.heap.size := (h.says h0 hg).lt

theorem put_mul {b : Nat} {xs : List Nat} {K o c lo hi s ov E f X : Nat} (hk : K < xs.length) (ho : o = xs.getD K 0) (h : val b xs + c * b ^ K = X) (h1 : E * f + c = lo + hi * b) (h2 : o + lo = s + ov * b) :
    val b (xs.set K s) + (hi + ov) * b ^ (K + 1) = X + b ^ K * (E * f) := by
  have h3 := val_put b xs K s hk
  rw [← ho] at h3
  rw [Nat.pow_succ]
  generalize b ^ K = P at *
  have h4 : P * (E * f + c) = P * (lo + hi * b) := by rw [h1]
  have h5 : P * (o + lo) = P * (s + ov * b) := by rw [h2]
  simp only [Nat.mul_add] at h4 h5
  have e1 : P * (hi * b) = hi * (P * b) := by rw [← Nat.mul_assoc, Nat.mul_comm P hi, Nat.mul_assoc]
  have e2 : P * (ov * b) = ov * (P * b) := by rw [← Nat.mul_assoc, Nat.mul_comm P ov, Nat.mul_assoc]
  have e3 : P * c = c * P := Nat.mul_comm _ _
  rw [Nat.add_mul]
  omega

theorem carry_lt {o E f c lo hi s ov : Nat} (ho : o < WB) (hE : E < WB) (hf : f < WB) (hc : c < WB) (h1 : E * f + c = lo + hi * WB) (h2 : o + lo = s + ov * WB) : hi + ov < WB := by
  have h3 : E * f ≤ (WB - 1) * (WB - 1) := Nat.mul_le_mul (by omega) (by omega)
  have e : (WB - 1) * (WB - 1) = WB * WB - 2 * WB + 1 := by unfold WB; rfl
  have e2 : 2 * WB ≤ WB * WB := by unfold WB; decide
  apply Nat.lt_of_not_le
  intro hle
  have h4 : WB * WB ≤ (hi + ov) * WB := Nat.mul_le_mul_right _ hle
  rw [Nat.add_mul] at h4
  omega

theorem one_true (v : Value) (x : Nat) (w : World) (hv : Nums 54 .u64 WB w v x) (h : x = 1) :
    Calls Tryz.prog 102 #[v] w fun e w' => e = .returned (.bool true) ∧ ∃ nq, w' = w.drewN nq := by
  have := isOneW_any v x w hv
  rwa [decide_eq_true h] at this

theorem one_false (v : Value) (x : Nat) (w : World) (hv : Nums 54 .u64 WB w v x) (h : x ≠ 1) :
    Calls Tryz.prog 102 #[v] w fun e w' => e = .returned (.bool false) ∧ ∃ nq, w' = w.drewN nq := by
  have := isOneW_any v x w hv
  rwa [decide_eq_false h] at this

theorem Nums.drewN {t : TypeId} {k : IntKind} {b x : Nat} {w : World} {v : Value} (h : Nums t k b w v x) (n : Nat) : Nums t k b (w.drewN n) v x := h.below (below_drewN n (Below.refl w.heap.size w)) (Nat.le_refl _)

set_option maxRecDepth 100000 in
set_option maxHeartbeats 3200000 in
theorem mulNats_main (va vb : Value) (x y : Nat) (w : World) (ha : Nums 54 .u64 WB w va x) (hb : Nums 54 .u64 WB w vb y) (hlx : ln WB x ≤ 549755813888) (hly : ln WB y ≤ 549755813888) (hx1 : x ≠ 1) (hy1 : y ≠ 1) :
    Calls Tryz.prog 76 #[va, vb] w fun e w' => (∃ v, e = .returned v ∧ Nums 54 .u64 WB w' v (x * y)) ∧ Below w.heap.size w w' := by
  have h2 := WB_two
  obtain ⟨i0, hi, hz0, hz1, hz2⟩ := info_parts Tryz.info_u64p
  obtain ⟨Aa, ca, rfl, _, _, _⟩ := RowF.open ha
  obtain ⟨Ab, cb, rfl, _, _, _⟩ := RowF.open hb
  have C1 := Lib.hid (one_false _ x w ha hx1)
  have C2 : Hid (∀ n, Calls Tryz.prog 102 #[.slice Ab (ln WB y) cb] (w.drewN n) fun e w' => e = .returned (.bool false) ∧ ∃ nq, w' = (w.drewN n).drewN nq) := Lib.hid fun n => one_false _ y _ (hb.drewN n) hy1
  have HA := Lib.hid ha; clear ha
  have HB := Lib.hid hb; clear hb
  obtain ⟨la, hla⟩ : ∃ la, la = ln WB x := ⟨_, rfl⟩
  obtain ⟨lb, hlb⟩ : ∃ lb, lb = ln WB y := ⟨_, rfl⟩
  rw [← hla] at HA hlx C1 ⊢
  rw [← hlb] at HB hly C2 ⊢
  have Hla := Lib.hid hla; clear hla
  have Hlb := Lib.hid hlb; clear hlb
  clear hx1 hy1
  go_enter Tryz.func76, Tryz.ntmps76
  go_wp2_with (first
    | (go_at_call_of 102 (Value.slice Aa la ca); refine C1.out.mono ?_; rintro e w' ⟨rfl, n1, rfl⟩)
    | (go_at_call_of 102 (Value.slice Ab lb cb); refine (C2.out _).mono ?_; rintro e w' ⟨rfl, n2, rfl⟩)
    | (at_make; refine wpList_make_full _ rfl _ _ 60 rfl w.heap.size 54 i0 (.int .u64 0) 1 Tryz.underlying60 hi hz0 hz1 _ _ _ _ (la + lb) rfl rfl (by omega) (by omega) ?b2 ?b3 (Nat.le_refl _) ?_))
  case b2 => rw [hz2]; omega
  case b3 => unfold maxLen; omega
  intro w0 hown0 hgrow0
  have hrow0 := own_rowW (made_own hown0)
  have hbel0 : Below w.heap.size w w0 := (below_drewN _ (Below.refl w.heap.size w)).trans ((Below.refl _ _).grown hgrow0 (Nat.le_refl _) (fun k h => by cases h))
  have Hrow0 := Lib.hid hrow0
  have Hbel0 := Lib.hid hbel0
  clear hown0 hgrow0 hrow0 hbel0 C1 C2
  go_wp2_with fail
  go_loopw [29] (fun i wr => ∃ (k : Nat) (zs : List Nat), i = .int .i64 (k : Nat) ∧ k ≤ la ∧ zs.length = la + lb ∧ Dig WB zs ∧ val WB zs = x % WB ^ k * y ∧ RowW 54 wr w.heap.size 0 zs ∧ Below w.heap.size w wr) (fun i _ => la - (intOf i).toNat)
  case atStart => exact ⟨0, _, rfl, by omega, by simp, rep_dig _, by rw [val_replicate_zero]; simp [Nat.mod_one], Hrow0.out, Hbel0.out⟩
  case round =>
    clear Hrow0 Hbel0
    obtain ⟨k, zs, rfl, hkl, hlen, hdig, hval, hrow, hbel⟩ := hrel
    have Hlen := Lib.hid hlen; clear hlen
    have Hdig := Lib.hid hdig; clear hdig
    have Hval := Lib.hid hval; clear hval
    have Hrow := Lib.hid hrow; clear hrow
    have Hbel := Lib.hid hbel; clear hbel
    by_cases hk : k < la
    · obtain ⟨ba, oa, rfl, hcA⟩ := (HA.out.below Hbel.out (Nat.le_refl _)).get Hla.out hk
      obtain ⟨D, hD⟩ : ∃ D, D = dg WB x k := ⟨_, rfl⟩
      rw [← hD] at hcA
      have hDb : D < WB := by rw [hD]; exact dg_lt _ _ _ h2
      have hz : zs.getD (k + lb) 0 = 0 := by
        have hlt : x % WB ^ k * y < WB ^ (k + lb) := by
          rw [Nat.pow_add]
          have h3 : x % WB ^ k < WB ^ k := Nat.mod_lt _ (Nat.pow_pos (by omega))
          have h4 : y < WB ^ lb := by rw [Hlb.out]; exact lt_pow_ln WB y h2
          exact Nat.mul_lt_mul'' h3 h4
        rw [getD_val WB zs Hdig.out, Hval.out, Nat.div_eq_of_lt hlt, Nat.zero_mod]
      have Hz := Lib.hid hz; clear hz
      have HD := Lib.hid hD; clear hD
      have HDb := Lib.hid hDb; clear hDb
      have hcap : ¬ la + lb = k := by omega
      go_wp2_with fail
      rw [show k + lb - k = lb by omega]
      go_loopw [9, 43] (fun cv j wr => ∃ (c j' : Nat) (ys : List Nat), cv = .int .u64 (c : Nat) ∧ j = .int .i64 (j' : Nat) ∧ j' ≤ lb ∧ c < WB ∧ ys.length = la + lb ∧ Dig WB ys ∧ ys.getD (k + lb) 0 = 0 ∧ val WB ys + c * WB ^ (k + j') = x % WB ^ k * y + WB ^ k * (D * (y % WB ^ j')) ∧ RowW 54 wr w.heap.size 0 ys ∧ Below w.heap.size w wr) (fun _ j _ => lb - (intOf j).toNat)
      case atStart => exact ⟨0, 0, zs, rfl, rfl, by omega, by omega, Hlen.out, Hdig.out, Hz.out, by rw [Hval.out]; simp [Nat.mod_one], Hrow.out, Hbel.out⟩
      case round =>
        clear Hlen Hdig Hval Hrow Hbel Hz hcA
        obtain ⟨c, j, ys, rfl, rfl, hjl, hc, hlen, hdig, hz, hval, hrow, hbel⟩ := hrel
        have Hlen := Lib.hid hlen; clear hlen
        have Hdig := Lib.hid hdig; clear hdig
        have Hz := Lib.hid hz; clear hz
        have Hval := Lib.hid hval; clear hval
        have Hrow := Lib.hid hrow; clear hrow
        have Hbel := Lib.hid hbel; clear hbel
        have Hc := Lib.hid hc; clear hc
        by_cases hj : j < lb
        · obtain ⟨bb, ob, rfl, hcB⟩ := (HB.out.below Hbel.out (Nat.le_refl _)).get Hlb.out hj
          obtain ⟨E, hE⟩ : ∃ E, E = dg WB y j := ⟨_, rfl⟩
          rw [← hE] at hcB
          have hEb : E < WB := by rw [hE]; exact dg_lt _ _ _ h2
          obtain ⟨o, ho⟩ : ∃ o, o = ys.getD (k + j) 0 := ⟨_, rfl⟩
          have hkl2 : k + j < ys.length := by rw [Hlen.out]; omega
          have hcO : wr.cell? ⟨w.heap.size, k + j, none⟩ = some (.int .u64 (o : Nat)) := by have := Hrow.out.cell hkl2; rwa [Nat.zero_add, ← ho] at this
          have hfO : wr.frozen? ⟨w.heap.size, k + j, none⟩ = false := Hrow.out.free _
          have hob : o < WB := by rw [ho]; exact getD_below (by omega) Hdig.out _
          obtain ⟨lo, hlo⟩ : ∃ p, p = (E * D + c) % WB := ⟨_, rfl⟩
          obtain ⟨hi', hhi⟩ : ∃ p, p = (E * D + c) / WB := ⟨_, rfl⟩
          have hlob : lo < WB := by rw [hlo]; exact Nat.mod_lt _ (by omega)
          have M1 := Lib.hid (mulAdd_same E D c lo hi' hEb HDb.out Hc.out hlo hhi)
          have hm1 : E * D + c = lo + hi' * WB := by rw [hlo, hhi, Nat.mul_comm _ WB]; exact (Nat.mod_add_div _ _).symm
          obtain ⟨s, hs⟩ : ∃ s, s = (o + lo) % WB := ⟨_, rfl⟩
          obtain ⟨ov, hov⟩ : ∃ s, s = (o + lo) / WB := ⟨_, rfl⟩
          have hsb : s < WB := by rw [hs]; exact Nat.mod_lt _ (by omega)
          have hm2 : o + lo = s + ov * WB := by rw [hs, hov, Nat.mul_comm _ WB]; exact (Nat.mod_add_div _ _).symm
          have hadd : ∀ W, (callFunc 119 #[.int .u64 (o : Nat), .int .u64 (lo : Nat), .int .u64 0]).run Tryz.prog W = .ok (.value (.tuple #[.int .u64 (s : Nat), .int .u64 (ov : Nat)])) W := fun W => by rw [hs, hov]; exact Tryz.add64_run0 o lo W
          have hcl := carry_lt hob hEb HDb.out Hc.out hm1 hm2
          have kc : IntKind.u64.wrap ((hi' : Int) + (ov : Int)) = ((hi' + ov : Nat) : Int) := by
            unfold WB at hcl
            rw [IntWalk.u64_in _ (by omega)]; omega
          obtain ⟨c', hc'⟩ : ∃ c', c' = hi' + ov := ⟨_, rfl⟩
          rw [← hc'] at kc hcl
          have hnew : val WB (ys.set (k + j) s) + c' * WB ^ (k + (j + 1)) = x % WB ^ k * y + WB ^ k * (D * (y % WB ^ (j + 1))) := by
            rw [mul_inner WB k D y j h2, ← hE, ← Nat.add_assoc k j 1, hc', Nat.mul_comm D E, ← Nat.add_assoc]
            exact put_mul hkl2 ho Hval.out hm1 hm2
          have Hnew := Lib.hid hnew; clear hnew
          have hrow2 := Hrow.out.set (k + j) hkl2 s
          rw [Nat.zero_add] at hrow2
          have Hrow2 := Lib.hid hrow2; clear hrow2
          have Hbel2 := Lib.hid (Hbel.out.setCell (p := ⟨w.heap.size, k + j, none⟩) (Nat.le_refl _) (.int .u64 (s : Nat)))
          have Hsb := Lib.hid hsb; clear hsb
          have Hcl := Lib.hid hcl; clear hcl
          have Hz2 : Hid ((ys.set (k + j) s).getD (k + lb) 0 = 0) := Lib.hid (by rw [getD_put_ne _ _ _ _ (by omega)]; exact Hz.out)
          clear hE hEb ho hob hlo hhi hlob hm1 hs hov hm2 hc' hkl2
          go_wp2_with (go_at_call 118; refine (M1.out _).mono ?_; rintro e w' ⟨rfl, rfl⟩)
          go_roundw
          case rel => exact ⟨c', j + 1, _, by first | rfl | rw [kc], by go_num, by omega, Hcl.out, by rw [List.length_set]; exact Hlen.out, Hdig.out.put _ Hsb.out, Hz2.out, Hnew.out, Hrow2.out, Hbel2.out⟩
          case measure => simp [intOf]; omega
        · obtain rfl : j = lb := by omega
          have hkl2 : k + j < ys.length := by rw [Hlen.out]; omega
          have hcO : wr.cell? ⟨w.heap.size, k + j, none⟩ = some (.int .u64 (ys.getD (k + j) 0 : Nat)) := by have := Hrow.out.cell hkl2; rwa [Nat.zero_add] at this
          have hfO : wr.frozen? ⟨w.heap.size, k + j, none⟩ = false := Hrow.out.free _
          have hnew : val WB (ys.set (k + j) c) = x % WB ^ (k + 1) * y := by
            have h3 := val_put WB ys (k + j) c hkl2
            rw [Hz.out, Nat.mul_zero, Nat.add_zero, Nat.mul_comm (WB ^ (k + j)), Hval.out, mod_pow_ln WB y j h2 (by rw [← Hlb.out]; omega), HD.out, ← mul_next WB x y k h2] at h3
            exact h3
          have Hnew := Lib.hid hnew; clear hnew
          have hrow2 := Hrow.out.set (k + j) hkl2 c
          rw [Nat.zero_add] at hrow2
          have Hrow2 := Lib.hid hrow2; clear hrow2
          have Hbel2 := Lib.hid (Hbel.out.setCell (p := ⟨w.heap.size, k + j, none⟩) (Nat.le_refl _) (.int .u64 (c : Nat)))
          clear hkl2 hj
          go_wp2_with fail
          go_roundw
          case rel => exact ⟨k + 1, _, by go_num, by omega, by rw [List.length_set]; exact Hlen.out, Hdig.out.put _ Hc.out, Hnew.out, Hrow2.out, Hbel2.out⟩
          case measure => simp [intOf]; omega
    · obtain rfl : k = la := by omega
      have hrow := Hrow.out.rowF (cap := k + lb) (by rw [Hlen.out]; omega) (by unfold maxLen; omega)
      rw [Hlen.out] at hrow
      have C3 := Lib.hid (trimW_any (.slice (some ⟨w.heap.size, 0, none⟩) (k + lb) (k + lb)) zs wr Hdig.out (by rw [Hlen.out]; exact hrow))
      have e1 := Hval.out
      rw [mod_pow_ln WB x k h2 (by rw [← Hla.out]; omega)] at e1
      have He1 := Lib.hid e1
      clear hrow e1 hk
      go_wp2_with (go_at_call 114; refine C3.out.mono ?_; rintro e w' ⟨⟨v', rfl, hv'⟩, rfl⟩)
      go_ret
      rw [He1.out] at hv'
      exact ⟨⟨_, rfl, hv'⟩, Hbel.out⟩

set_option maxRecDepth 100000 in
set_option maxHeartbeats 800000 in
theorem mulNats_left (va vb : Value) (x _y : Nat) (w : World) (ha : Nums 54 .u64 WB w va x) (hx1 : x = 1) :
    Calls Tryz.prog 76 #[va, vb] w fun e w' => e = .returned vb ∧ ∃ nq, w' = w.drewN nq := by
  have C1 := Lib.hid (one_true _ x w ha hx1)
  clear ha hx1
  go_enter Tryz.func76, Tryz.ntmps76
  go_wp2_with (go_at_call 102; refine C1.out.mono ?_; rintro e w' ⟨rfl, n1, rfl⟩)
  go_ret
  exact ⟨rfl, _, rfl⟩

set_option maxRecDepth 100000 in
set_option maxHeartbeats 800000 in
theorem mulNats_right (va vb : Value) (x y : Nat) (w : World) (ha : Nums 54 .u64 WB w va x) (hb : Nums 54 .u64 WB w vb y) (hx1 : x ≠ 1) (hy1 : y = 1) (_hne : va ≠ vb) :
    Calls Tryz.prog 76 #[va, vb] w fun e w' => e = .returned va ∧ ∃ nq, w' = w.drewN nq := by
  have C1 := Lib.hid (one_false _ x w ha hx1)
  have C2 : Hid (∀ n, Calls Tryz.prog 102 #[vb] (w.drewN n) fun e w' => e = .returned (.bool true) ∧ ∃ nq, w' = (w.drewN n).drewN nq) := Lib.hid fun n => one_true _ y _ (hb.drewN n) hy1
  clear ha hb hx1 hy1
  go_enter Tryz.func76, Tryz.ntmps76
  go_wp2_with (first
    | (go_at_call_of 102 va; refine C1.out.mono ?_; rintro e w' ⟨rfl, n1, rfl⟩)
    | (go_at_call_of 102 vb; refine (C2.out _).mono ?_; rintro e w' ⟨rfl, n2, rfl⟩))
  go_ret
  exact ⟨rfl, _, rfl⟩

/-- The program's product of two numbers. -/
theorem mulNats_any (va vb : Value) (x y : Nat) (w : World) (ha : Nums 54 .u64 WB w va x) (hb : Nums 54 .u64 WB w vb y) (hlx : ln WB x ≤ 549755813888) (hly : ln WB y ≤ 549755813888) :
    Calls Tryz.prog 76 #[va, vb] w fun e w' => (∃ v, e = .returned v ∧ Nums 54 .u64 WB w' v (x * y)) ∧ Below w.heap.size w w' := by
  by_cases hx : x = 1
  · refine (mulNats_left va vb x y w ha hx).mono ?_
    rintro e w' ⟨rfl, nq, rfl⟩
    exact ⟨⟨_, rfl, by rw [hx, Nat.one_mul]; exact hb.drewN nq⟩, below_drewN nq (Below.refl _ _)⟩
  · by_cases hy : y = 1
    · refine (mulNats_right va vb x y w ha hb hx hy (fun e => ?_)).mono ?_
      · subst e
        have e1 : ln WB x = ln WB y := by
          obtain ⟨A1, c1, h1, _⟩ := RowF.open ha
          obtain ⟨A2, c2, h3, _⟩ := RowF.open hb
          rw [h1] at h3
          injection h3
        have hl1 : ln WB y = 1 := by rw [hy, ln_one WB WB_two]
        obtain ⟨A1, c1, rfl, _, _, _⟩ := RowF.open ha
        obtain ⟨b1, o1, h5, hc1⟩ := ha.get rfl (show 0 < ln WB x by omega)
        obtain ⟨b2, o2, h6, hc2⟩ := hb.get e1 (show 0 < ln WB x by omega)
        rw [h5] at h6
        injection h6 with h6
        injection h6 with h7 h8
        subst h7 h8
        rw [hc1] at hc2
        injection hc2 with hc2
        injection hc2 with _ hc2
        have h9 : dg WB x 0 = dg WB y 0 := by omega
        have hxb : x < WB := by have := lt_pow_ln WB x WB_two; rwa [e1, hl1, Nat.pow_one] at this
        rw [dg_zero WB x WB_two, dg_zero WB y WB_two, Nat.mod_eq_of_lt hxb, hy] at h9
        exact hx (by rw [h9]; unfold WB; decide)
      · rintro e w' ⟨rfl, nq, rfl⟩
        exact ⟨⟨_, rfl, by rw [hy, Nat.mul_one]; exact ha.drewN nq⟩, below_drewN nq (Below.refl _ _)⟩
    · exact mulNats_main va vb x y w ha hb hlx hly hx hy

end Go.Proofs.YtmmonglcbkefmaaGreatDoor
/-
  The program's sum and difference of two numbers, exact quotient, and the sum of two numbers with signs.
-/
namespace Go.Proofs.YtmmonglcbkefmaaGreatDoor
open Go.RowKit Num

set_option maxRecDepth 100000 in
set_option maxHeartbeats 1600000 in
theorem addNats_any (va vb : Value) (x0 y0 : Nat) (w : World) (ha0 : Nums 54 .u64 WB w va x0) (hb0 : Nums 54 .u64 WB w vb y0) (hlx0 : ln WB x0 ≤ 549755813888) (hly0 : ln WB y0 ≤ 549755813888) :
    Calls Tryz.prog 132 #[va, vb] w fun e w' => (∃ v, e = .returned v ∧ Nums 54 .u64 WB w' v (x0 + y0)) ∧ Below w.heap.size w w' := by
  have h2 := WB_two
  obtain ⟨i0, hi, hz0, hz1, hz2⟩ := info_parts Tryz.info_u64p
  obtain ⟨A0, c0, rfl, _, _, _⟩ := RowF.open ha0
  obtain ⟨A1, c1, rfl, _, _, _⟩ := RowF.open hb0
  have HA0 := Lib.hid ha0; clear ha0
  have HB0 := Lib.hid hb0; clear hb0
  obtain ⟨S, hS⟩ : ∃ S, S = x0 + y0 := ⟨_, rfl⟩
  rw [← hS]
  have HS := Lib.hid hS; clear hS
  go_enter Tryz.func132, Tryz.ntmps132
  go_upto_if 10 with fail
  go_cut [0, 1] (fun s0 s1 wx => ∃ x y : Nat, Nums 54 .u64 WB w s0 x ∧ Nums 54 .u64 WB w s1 y ∧ ln WB x ≤ 549755813888 ∧ ln WB y ≤ ln WB x ∧ x + y = S ∧ w = wx)
  case first =>
    by_cases hlt : ln WB x0 < ln WB y0
    · go_wp2_with fail
      go_meet
      exact ⟨y0, x0, HB0.out, HA0.out, hly0, Nat.le_of_lt hlt, by rw [HS.out, Nat.add_comm], rfl⟩
    · go_wp2_with fail
      go_meet
      exact ⟨x0, y0, HA0.out, HB0.out, hlx0, by omega, HS.out.symm, rfl⟩
  clear HS
  obtain ⟨x, y, ha, hb, hlx, hle, hS, rfl⟩ := hcut
  have HS := Lib.hid hS; clear hS HA0 HB0 hlx0 hly0
  obtain ⟨Aa, ca, rfl, _, _, _⟩ := RowF.open ha
  obtain ⟨Ab, cb, rfl, _, _, _⟩ := RowF.open hb
  have HA := Lib.hid ha; clear ha
  have HB := Lib.hid hb; clear hb
  obtain ⟨la, hla⟩ : ∃ la, la = ln WB x := ⟨_, rfl⟩
  obtain ⟨lb, hlb⟩ : ∃ lb, lb = ln WB y := ⟨_, rfl⟩
  rw [← hla] at HA hlx hle ⊢
  rw [← hlb] at HB hle ⊢
  have Hla := Lib.hid hla; clear hla
  have Hlb := Lib.hid hlb; clear hlb
  have hns : ¬ la < lb := by omega
  go_wp2_with (at_make; refine wpList_make_full _ rfl _ _ 60 rfl w.heap.size 54 i0 (.int .u64 0) 1 Tryz.underlying60 hi hz0 hz1 _ _ _ _ (la + 1) rfl rfl (by omega) (by omega) ?b2 ?b3 (Nat.le_refl _) ?_)
  case b2 => rw [hz2]; omega
  case b3 => unfold maxLen; omega
  intro w0 hown0 hgrow0
  have hw0 := own_whole (made_own hown0)
  have hbel0 : Below w.heap.size w w0 := (Below.refl _ _).grown hgrow0 (Nat.le_refl _) (fun k h => by cases h)
  have Hc := Lib.hid (digs_cell (HA.out.below hbel0 (Nat.le_refl _)) Hla.out)
  have Hw0 := Lib.hid hw0
  have Hbel0 := Lib.hid hbel0
  clear hown0 hgrow0 hw0 hbel0
  go_wp2_with (with_reducible refine wpList_copy_splice rfl (.tmp 17) (.tmp 18) 60 60 rfl 54 Tryz.underlying60 Tryz.size_u64 (some ⟨w.heap.size, 0, none⟩) Aa (la + 1) (la + 1) la ca rfl rfl w.heap.size 0 ((List.replicate (la + 1) 0).map fun x => Value.int .u64 (x : Nat)) 54 Hw0.out ((digs WB x).map fun x => Value.int .u64 (x : Nat)) ?c1 ?c2 ?c3 ?c4 w.heap.size w Hbel0.out (Nat.le_refl _) ?_)
  case c1 => rw [List.length_map, length_digs, ← Hla.out]; exact (Nat.min_eq_left (by omega)).symm
  case c2 => exact fun h0 => by simpa using Hc.out (by simpa using h0)
  case c3 => simp [length_digs, ← Hla.out]
  case c4 => intro v hv; obtain ⟨y, _, rfl⟩ := List.mem_map.1 hv; rfl
  intro w1 hw1 hb1
  have hrow1 : RowW 54 w1 w.heap.size 0 (pad WB (la + 1) x) := by
    refine rowW_whole ?_
    rw [← splice_pad (la + 1) x (by rw [← Hla.out]; omega)]
    have h1 := hw1.out
    simpa using h1
  have hpl : (pad WB (la + 1) x).length = la + 1 := pad_len WB (la + 1) x (by rw [← Hla.out]; omega)
  have hne : (Value.slice Ab lb cb).ownBlock ≠ some w.heap.size := by
    intro e
    by_cases h0 : 0 < ln WB y
    · have := HB.out.block_lt' h0 e
      omega
    · rcases HB.out with ⟨h5, _⟩ | ⟨b5, o5, c5, h5, _, _, ⟨cs, h6⟩, _⟩
      · rw [h5] at e; cases e
      · rw [h5] at e
        have : b5 = w.heap.size := by simpa [Value.ownBlock] using e
        have := heap_lt h6
        omega
  have C4 := Lib.hid (addInto_any w.heap.size 0 (la + 1) (la + 1) (pad WB (la + 1) x) (.slice Ab lb cb) y w1 hrow1 (pad_dig WB _ _ h2) hpl (by unfold maxLen; omega) (HB.out.below hb1 (Nat.le_refl _)) hne (by rw [← Hlb.out]; omega))
  have Hb1 := Lib.hid hb1
  clear hw1 hb1 hrow1 hpl hne
  go_wp2_with fail
  refine C4.out.mono ?_
  rintro e w2 ⟨⟨ys, c, rfl, hc, hyl, hyd, hyv, hyr⟩, hwr⟩
  have hxy : val WB ys = S := by
    rw [← HS.out]
    rw [pad_val WB _ _ h2] at hyv
    have h3 : x < WB ^ la := by rw [Hla.out]; exact lt_pow_ln WB x h2
    have h4 : y < WB ^ la := Nat.lt_of_lt_of_le (by rw [Hlb.out]; exact lt_pow_ln WB y h2 : y < WB ^ lb) (Nat.pow_le_pow_right (by omega) hle)
    have h5 : WB ^ (la + 1) = WB ^ la * WB := Nat.pow_succ _ _
    have h6 : WB ^ la * 2 ≤ WB ^ la * WB := Nat.mul_le_mul_left _ h2
    have h7 : c = 0 := by
      apply Nat.eq_zero_of_not_pos
      intro h8
      have : 1 * WB ^ (la + 1) ≤ c * WB ^ (la + 1) := Nat.mul_le_mul_right _ h8
      omega
    rw [h7] at hyv
    omega
  have hrow := hyr.rowF (cap := la + 1) (by rw [hyl]; omega) (by unfold maxLen; omega)
  rw [hyl] at hrow
  have C5 := Lib.hid (trimW_any (.slice (some ⟨w.heap.size, 0, none⟩) (la + 1) (la + 1)) ys w2 hyd (by rw [hyl]; exact hrow))
  have Hxy := Lib.hid hxy
  have Hb2 := Lib.hid (Hb1.out.trans (hwr.below (Nat.le_refl _)))
  clear hc hyl hyd hyv hyr hwr hxy hrow C4
  go_wp2_with fail
  refine C5.out.mono ?_
  rintro e w' ⟨⟨v', rfl, hv'⟩, rfl⟩
  rw [Hxy.out] at hv'
  have Hv := Lib.hid hv'
  clear hv'
  go_wp2_with fail
  go_ret
  exact ⟨⟨_, rfl, Hv.out⟩, Hb2.out⟩

set_option maxRecDepth 100000 in
set_option maxHeartbeats 1600000 in
theorem subNats_any (va vb : Value) (x y : Nat) (w : World) (ha : Nums 54 .u64 WB w va x) (hb : Nums 54 .u64 WB w vb y) (hlx : ln WB x ≤ 549755813888) (hle : y ≤ x) (h0 : 0 < x) :
    Calls Tryz.prog 133 #[va, vb] w fun e w' => (∃ v, e = .returned v ∧ Nums 54 .u64 WB w' v (x - y)) ∧ Below w.heap.size w w' := by
  have h2 := WB_two
  have hlx0 : 0 < ln WB x := Nat.pos_of_ne_zero fun e => by have := (ln_eq_zero WB x h2).1 e; omega
  have hlyx := ln_mono WB y x h2 hle
  obtain ⟨Ab, cb, rfl, _, _, _⟩ := RowF.open hb
  have C1 := Lib.hid (clone_says w va x ha hlx0 (by omega))
  have HB := Lib.hid hb
  have hne : ∀ g, w.heap.size ≤ g → (Value.slice Ab (ln WB y) cb).ownBlock ≠ some g := fun g hg e => by
    by_cases hl : 0 < ln WB y
    · have := hb.block_lt' hl e
      omega
    · rcases hb with ⟨h5, _⟩ | ⟨b5, o5, c5, h5, _, _, ⟨cs, h6⟩, _⟩
      · rw [h5] at e; cases e
      · rw [h5] at e
        have : b5 = g := by simpa [Value.ownBlock] using e
        have := heap_lt h6
        omega
  have Hne := Lib.hid hne
  clear ha hb hne
  go_enter Tryz.func133, Tryz.ntmps133
  go_wp2_with fail
  refine C1.out.mono ?_
  rintro e w1 ⟨⟨v1, g1, rfl, hv1, ho1, hg1, hg1'⟩, hb1⟩
  obtain ⟨off, cap, zs, rfl, k2, k3, k4, k5, k6, k7⟩ := hv1.says hlx0 ho1
  have C2 := Lib.hid (subMul_any g1 off cap (ln WB x) zs (.slice Ab (ln WB y) cb) y 1 w1 (by omega) k7 k5 k4 (by unfold maxLen; omega) (HB.out.below hb1 (Nat.le_refl _)) (Hne.out g1 hg1) hlyx)
  have HK := Lib.hid (And.intro k4 k6)
  have Hb1 := Lib.hid hb1
  clear hv1 ho1 hb1 k4 k5 k6 k7
  go_wp2_with fail
  refine C2.out.mono ?_
  rintro e w2 ⟨⟨ys, t, rfl, ht, hyl, hyd, hyv, hyr⟩, hwr⟩
  have hxy : val WB ys = x - y := by
    rw [HK.out.2, Nat.one_mul] at hyv
    have h5 := val_lt WB ys hyd
    rw [hyl] at h5
    have h6 := lt_pow_ln WB x h2
    have h7 : t = 0 := by
      apply Nat.eq_zero_of_not_pos
      intro h8
      have : 1 * WB ^ ln WB x ≤ t * WB ^ ln WB x := Nat.mul_le_mul_right _ h8
      omega
    rw [h7] at hyv
    omega
  have hrow := hyr.rowF (cap := cap) (by rw [hyl]; exact k2) k3
  rw [hyl] at hrow
  have C5 := Lib.hid (trimW_any (.slice (some ⟨g1, off, none⟩) (ln WB x) cap) ys w2 hyd (by rw [hyl]; exact hrow))
  have Hxy := Lib.hid hxy
  have Hb2 := Lib.hid (Hb1.out.trans (hwr.below hg1))
  clear ht hyl hyd hyv hyr hwr hxy hrow C2
  go_wp2_with fail
  refine C5.out.mono ?_
  rintro e w' ⟨⟨v', rfl, hv'⟩, rfl⟩
  rw [Hxy.out] at hv'
  have Hv := Lib.hid hv'
  clear hv'
  go_wp2_with fail
  go_ret
  exact ⟨⟨_, rfl, Hv.out⟩, Hb2.out⟩

set_option maxRecDepth 100000 in
set_option maxHeartbeats 1600000 in
theorem exact_any (va vb : Value) (x y : Nat) (w : World) (ha : Nums 54 .u64 WB w va x) (hb : Nums 54 .u64 WB w vb y) (hy : 0 < y) (hlx : ln WB x ≤ 549755813888) :
    Calls Tryz.prog 90 #[va, vb] w fun e w' => (∃ v, e = .returned v ∧ Nums 54 .u64 WB w' v (x / y)) ∧ Below w.heap.size w w' := by
  by_cases h1 : y = 1
  · have C1 := Lib.hid (one_true vb y w hb h1)
    have HA := Lib.hid ha
    have H1 := Lib.hid h1
    clear ha hb h1 hy
    go_enter Tryz.func90, Tryz.ntmps90
    go_wp2_with (go_at_call 102; refine C1.out.mono ?_; rintro e w' ⟨rfl, n1, rfl⟩)
    go_ret
    exact ⟨⟨_, rfl, by rw [H1.out, Nat.div_one]; exact HA.out.drewN n1⟩, below_drewN n1 (Below.refl _ _)⟩
  · have C1 := Lib.hid (one_false vb y w hb h1)
    have C2 : Hid (∀ n, Calls Tryz.prog 75 #[va, vb] (w.drewN n) fun e w' => (∃ v v', e = .returned (.tuple #[v, v']) ∧ Nums 54 .u64 WB w' v (x / y) ∧ Nums 54 .u64 WB w' v' (x % y)) ∧ Below w.heap.size (w.drewN n) w') :=
      Lib.hid fun n => divNats_any va vb x y (w.drewN n) (ha.drewN n) (hb.drewN n) hy hlx
    clear ha hb h1 hy
    go_enter Tryz.func90, Tryz.ntmps90
    go_wp2_with (first
      | (go_at_call 102; refine C1.out.mono ?_; rintro e w' ⟨rfl, n1, rfl⟩)
      | (go_at_call 75; refine (C2.out _).mono ?_; rintro e w2 ⟨⟨v, v', rfl, hv, hv'⟩, hb2⟩))
    go_ret
    exact ⟨⟨_, rfl, hv⟩, (below_drewN _ (Below.refl w.heap.size w)).trans hb2⟩

/-- The sum of two numbers with signs. -/
def sgnSum (a : Bool) (x : Nat) (b : Bool) (y : Nat) : Bool × Nat := if a = b then (a, x + y) else if x < y then (b, y - x) else (a, x - y)

set_option maxRecDepth 100000 in
set_option maxHeartbeats 1600000 in
theorem addSigned_any (a b : Bool) (va vb : Value) (x y : Nat) (w : World) (ha : Nums 54 .u64 WB w va x) (hb : Nums 54 .u64 WB w vb y) (hlx : ln WB x ≤ 549755813888) (hly : ln WB y ≤ 549755813888) (h0 : a ≠ b → 0 < x ∨ 0 < y) :
    Calls Tryz.prog 91 #[.bool a, va, .bool b, vb] w fun e w' => (∃ v, e = .returned (.tuple #[.bool (sgnSum a x b y).1, v]) ∧ Nums 54 .u64 WB w' v (sgnSum a x b y).2) ∧ Below w.heap.size w w' := by
  by_cases hab : a = b
  · have C1 := Lib.hid (addNats_any va vb x y w ha hb hlx hly)
    have e1 : sgnSum a x b y = (a, x + y) := by rw [sgnSum, if_pos hab]
    rw [e1]
    subst hab
    clear ha hb h0 e1
    have hbb : (a == a) = true := by simp
    go_enter Tryz.func91, Tryz.ntmps91
    go_wp2_with (go_at_call 132; refine C1.out.mono ?_; rintro e w1 ⟨⟨v, rfl, hv⟩, hb1⟩)
    go_ret2
    exact ⟨⟨_, rfl, hv⟩, hb1⟩
  · have hab2 : (a == b) = false := by simpa using hab
    have C1 := Lib.hid (cmpW_any va vb x y w ha hb)
    by_cases hxy : x < y
    · have e1 : sgnSum a x b y = (b, y - x) := by rw [sgnSum, if_neg hab, if_pos hxy]
      have ec : cmpI x y = -1 := by rw [cmpI, if_pos hxy]
      rw [e1]
      rw [ec] at C1
      have C2 : Hid (∀ n, Calls Tryz.prog 133 #[vb, va] (w.drewN n) fun e w' => (∃ v, e = .returned v ∧ Nums 54 .u64 WB w' v (y - x)) ∧ Below w.heap.size (w.drewN n) w') := Lib.hid fun n => subNats_any vb va y x (w.drewN n) (hb.drewN n) (ha.drewN n) hly (Nat.le_of_lt hxy) (by omega)
      clear ha hb h0 e1 ec hab hxy
      go_enter Tryz.func91, Tryz.ntmps91
      go_wp2_with (first
        | (go_at_call 99; refine C1.out.mono ?_; rintro e w' ⟨rfl, n1, rfl⟩)
        | (go_at_call 133; refine (C2.out _).mono ?_; rintro e w2 ⟨⟨v, rfl, hv⟩, hb2⟩))
      go_ret2
      exact ⟨⟨_, rfl, hv⟩, (below_drewN _ (Below.refl w.heap.size w)).trans hb2⟩
    · have e1 : sgnSum a x b y = (a, x - y) := by rw [sgnSum, if_neg hab, if_neg hxy]
      have ec : 0 ≤ cmpI x y := by rw [cmpI, if_neg hxy]; split <;> omega
      obtain ⟨c, hc⟩ : ∃ c, c = cmpI x y := ⟨_, rfl⟩
      rw [e1]
      rw [← hc] at C1 ec
      have C2 : Hid (∀ n, Calls Tryz.prog 133 #[va, vb] (w.drewN n) fun e w' => (∃ v, e = .returned v ∧ Nums 54 .u64 WB w' v (x - y)) ∧ Below w.heap.size (w.drewN n) w') := Lib.hid fun n => subNats_any va vb x y (w.drewN n) (ha.drewN n) (hb.drewN n) hlx (by omega) (by have := h0 hab; omega)
      clear ha hb h0 e1 hc hab hxy
      go_enter Tryz.func91, Tryz.ntmps91
      go_wp2_with (first
        | (go_at_call 99; refine C1.out.mono ?_; rintro e w' ⟨rfl, n1, rfl⟩)
        | (go_at_call 133; refine (C2.out _).mono ?_; rintro e w2 ⟨⟨v, rfl, hv⟩, hb2⟩))
      go_ret2
      exact ⟨⟨_, rfl, hv⟩, (below_drewN _ (Below.refl w.heap.size w)).trans hb2⟩

end Go.Proofs.YtmmonglcbkefmaaGreatDoor
