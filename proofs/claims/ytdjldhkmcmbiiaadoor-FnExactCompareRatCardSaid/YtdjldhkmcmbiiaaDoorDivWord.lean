/-
  The program's division of a number by a word.
-/
import Derived.Test.YtdjldhkmcmbiiaaDoorDivW
import Derived.Test.YtdjldhkmcmbiiaaDoorRowW
import Derived.Test.YtdjldhkmcmbiiaaDoorPureM
import Derived.Test.YtdjldhkmcmbiiaaDoorMul
namespace Go.Proofs.YtdjldhkmcmbiiaaDoor
open Go.RowKit Num

theorem own_rowW {w : World} {base g : Nat} {t : TypeId} {n cap : Nat} {xs : List Nat} (h : w.ownsRow base t 1 (.slice (some ⟨g, 0, none⟩) n cap) n (xs.map fun x => .int .u64 (x : Nat))) : RowW t w g 0 xs := by
  obtain ⟨h1, h2⟩ := h
  rcases h2 with ⟨h2, _⟩ | ⟨g', cap', cur, hv, _, hh, _, _, _, ht⟩
  · cases h2
  · injection hv with hv
    injection hv with hv
    injection hv with hv
    subst hv
    refine ⟨cur, hh, fun j hj => ?_⟩
    have hl : xs.length = n := by simpa using h1
    have e : (cur.toList.take (n * 1))[j]? = (xs.map fun x => Value.int .u64 (x : Nat))[j]? := by rw [ht]
    rw [List.getElem?_take, if_pos (by omega), List.getElem?_map] at e
    rw [Nat.zero_add, ← Array.getElem?_toList, e, List.getElem?_eq_getElem hj]
    simp [List.getD, hj]

theorem Tryd.info_u64p : (Tryd.prog.info? 94).map (fun i => (i.zero, i.size, i.bytes)) = some (some (.int .u64 0), 1, 8) := by kernel_rfl

theorem div_next_b (b x y k : Nat) (hb : 2 ≤ b) (hy : 0 < y) : x / b ^ k / y = b * (x / b ^ (k + 1) / y) + (x / b ^ (k + 1) % y * b + dg b x k) / y ∧ x / b ^ k % y = (x / b ^ (k + 1) % y * b + dg b x k) % y := by
  have e1 : x / b ^ k = b * (x / b ^ (k + 1)) + dg b x k := by
    rw [dg_eq b hb, Nat.pow_succ, ← Nat.div_div_eq_div_mul]
    exact (Nat.div_add_mod _ _).symm
  have e2 := Nat.div_add_mod (x / b ^ (k + 1)) y
  obtain ⟨Q, hQ⟩ : ∃ Q, Q = x / b ^ (k + 1) / y := ⟨_, rfl⟩
  obtain ⟨R, hR⟩ : ∃ R, R = x / b ^ (k + 1) % y := ⟨_, rfl⟩
  rw [← hQ, ← hR] at e2 ⊢
  have e3 : x / b ^ k = (R * b + dg b x k) + y * (b * Q) := by
    rw [e1, ← e2, Nat.mul_add, Nat.mul_left_comm, Nat.mul_comm b R]; omega
  rw [e3, Nat.add_mul_div_left _ _ hy, Nat.add_mul_mod_self_left]
  exact ⟨by omega, rfl⟩

theorem quo_lt {b r d y : Nat} (hr : r < y) (hd : d < b) : (r * b + d) / y < b := by
  apply Nat.div_lt_of_lt_mul
  have h : (r + 1) * b ≤ y * b := Nat.mul_le_mul_right _ hr
  rw [Nat.add_mul, Nat.one_mul] at h
  omega

theorem rep_dig (n : Nat) : Dig WB (List.replicate n 0) := fun x hx => by rw [List.eq_of_mem_replicate hx]; unfold WB; omega

set_option maxRecDepth 100000 in
set_option maxHeartbeats 1600000 in
theorem divWord_any (va : Value) (x y : Nat) (w : World) (ha : Nums 94 .u64 WB w va x) (hy : 0 < y) (hyb : y < WB) (hlx : ln WB x ≤ 1099511627776) :
    Calls Tryd.prog 100 #[va, .int .u64 (y : Nat)] w fun e w' => (∃ v, e = .returned (.tuple #[v, .int .u64 (x % y : Nat)]) ∧ Nums 94 .u64 WB w' v (x / y)) ∧ Below w.heap.size w w' := by
  obtain ⟨i0, hi, hz0, hz1, hz2⟩ := info_parts Tryd.info_u64p
  obtain ⟨Aa, ca, rfl, hca, hca', _⟩ := RowF.open ha
  have h2 := WB_two
  have HA := Lib.hid ha; clear ha
  obtain ⟨la, hla⟩ : ∃ la, la = ln WB x := ⟨_, rfl⟩
  rw [← hla] at HA hca hlx ⊢
  have Hla := Lib.hid hla; clear hla
  have Hyb := Lib.hid hyb; clear hyb
  go_enter Tryd.func100, Tryd.ntmps100
  go_wp2_with (at_make; refine wpList_make_full _ rfl _ _ 45 rfl w.heap.size 94 i0 (.int .u64 0) 1 Tryd.underlying45 hi hz0 hz1 _ _ _ _ la rfl rfl (by omega) (by omega) ?b2 ?b3 (Nat.le_refl _) ?_)
  case b2 => rw [hz2]; omega
  case b3 => unfold maxLen; omega
  intro w0 hown0 hgrow0
  have hrow0 := own_rowW (made_own hown0)
  have hbel0 : Below w.heap.size w w0 := (Below.refl _ _).grown hgrow0 (Nat.le_refl _) (fun k h => by cases h)
  clear hown0 hgrow0
  go_wp2_with fail
  go_loopw [7, 8] (fun rv i wr => ∃ (k r : Nat) (ys : List Nat), rv = .int .u64 (r : Nat) ∧ i = .int .i64 ((k : Int) - 1) ∧ k ≤ la ∧ r = x / WB ^ k % y ∧ ys.length = la ∧ Dig WB ys ∧ val WB (ys.drop k) = x / WB ^ k / y ∧ RowW 94 wr w.heap.size 0 ys ∧ Below w.heap.size w wr) (fun _ i _ => ((intOf i) + 1).toNat)
  case atStart =>
    have hdone : x / WB ^ la = 0 := Nat.div_eq_of_lt (by rw [Hla.out]; exact lt_pow_ln WB x h2)
    exact ⟨la, 0, _, rfl, rfl, by omega, by rw [hdone]; simp, by simp, rep_dig _, by rw [List.drop_of_length_le (by simp), hdone]; simp [val], hrow0, hbel0⟩
  case round =>
    clear hrow0 hbel0
    obtain ⟨k, r, ys, rfl, rfl, hkl, hr, hlen, hdig, hval, hrow, hbel⟩ := hrel
    have Hlen := Lib.hid hlen; clear hlen
    have Hdig := Lib.hid hdig; clear hdig
    have Hval := Lib.hid hval; clear hval
    have Hrow := Lib.hid hrow; clear hrow
    have Hbel := Lib.hid hbel; clear hbel
    have Hr := Lib.hid hr; clear hr
    by_cases hk0 : 1 ≤ k
    · obtain ⟨q, rfl⟩ : ∃ q, k = q + 1 := ⟨k - 1, by omega⟩
      obtain ⟨bb, ob, rfl, hcB⟩ := (HA.out.below Hbel.out (Nat.le_refl _)).get Hla.out (show q < la by omega)
      obtain ⟨D, hD⟩ : ∃ D, D = dg WB x q := ⟨_, rfl⟩
      rw [← hD] at hcB
      have hDb : D < WB := by rw [hD]; exact dg_lt _ _ _ h2
      have hry : r < y := by rw [Hr.out]; exact Nat.mod_lt _ hy
      obtain ⟨d', hd'⟩ : ∃ d', d' = (r * WB + D) / y := ⟨_, rfl⟩
      obtain ⟨r', hr'⟩ : ∃ r', r' = (r * WB + D) % y := ⟨_, rfl⟩
      have hd2 : d' < WB := by rw [hd']; exact quo_lt hry hDb
      have C1 := Lib.hid (div64_any r D y d' r' hDb Hyb.out hry hd' hr')
      have hstep := div_next_b WB x y q h2 hy
      rw [← Hr.out, ← hD, ← hd', ← hr'] at hstep
      have Hstep := Lib.hid hstep; clear hstep
      have hkl2 : 0 + q < 0 + ys.length := by rw [Hlen.out]; omega
      have hcA : wr.cell? ⟨w.heap.size, q, none⟩ = some (.int .u64 (ys.getD q 0 : Nat)) := by have := Hrow.out.cell (j := q) (by omega); rwa [Nat.zero_add] at this
      have hfA : wr.frozen? ⟨w.heap.size, q, none⟩ = false := Hrow.out.free _
      have Hrow2 : ∀ n : Nat, RowW 94 ((wr.drewN n).setCell ⟨w.heap.size, q, none⟩ (.int .u64 (d' : Nat))) w.heap.size 0 (ys.set q d') := fun n => by
        have := (Hrow.out.drewN n).set q (by omega) d'; rwa [Nat.zero_add] at this
      have Hrow3 := Lib.hid Hrow2; clear Hrow2
      have Hbel2 : ∀ n : Nat, Below w.heap.size w ((wr.drewN n).setCell ⟨w.heap.size, q, none⟩ (.int .u64 (d' : Nat))) := fun n => (below_drewN n Hbel.out).setCell (Nat.le_refl _) _
      have Hbel3 := Lib.hid Hbel2; clear Hbel2
      have hnew : val WB ((ys.set q d').drop q) = x / WB ^ q / y := by
        rw [val_drop_step _ _ _ (by rw [List.length_set]; omega), List.getElem_set_self, List.drop_set_of_lt (Nat.lt_add_one _), Hval.out, Hstep.out.1]; exact Nat.add_comm _ _
      have Hnew := Lib.hid hnew; clear hnew
      have Hd2 := Lib.hid hd2; clear hd2
      clear hD hDb hry hd' hr' hkl2
      go_wp2_with (go_at_call 129; refine (C1.out _).mono ?_; rintro e w' ⟨rfl, nq, rfl⟩)
      go_roundw
      case rel => exact ⟨q, r', ys.set q d', rfl, by go_num, by omega, Hstep.out.2.symm, by rw [List.length_set]; exact Hlen.out, Hdig.out.put _ Hd2.out, Hnew.out, Hrow3.out _, Hbel3.out _⟩
      case measure => simp [intOf]
    · obtain rfl : k = 0 := by omega
      have hrow := (Hrow.out.rowF (cap := la) (by rw [Hlen.out]; omega) (by unfold maxLen; omega))
      rw [Hlen.out] at hrow
      have C2 := Lib.hid (trimW_any (.slice (some ⟨w.heap.size, 0, none⟩) la la) ys wr Hdig.out (by rw [Hlen.out]; exact hrow))
      clear hrow
      have e1 := Hval.out
      have e2 := Hr.out
      simp only [List.drop_zero, Nat.pow_zero, Nat.div_one] at e1 e2
      have He1 := Lib.hid e1; clear e1
      have He2 := Lib.hid e2; clear e2
      go_wp2_with (go_at_call 102; refine C2.out.mono ?_; rintro e w' ⟨⟨v', rfl, hv'⟩, rfl⟩)
      go_ret2
      rw [He1.out] at hv'
      rw [← He2.out]
      exact ⟨⟨_, rfl, hv'⟩, Hbel.out⟩

end Go.Proofs.YtdjldhkmcmbiiaaDoor
