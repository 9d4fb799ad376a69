/-
  slices.Repeat of one bool, at most five times: the walk.
-/
import Derived.Test.YtcdgbjklfmlhkaaPgUr2
namespace Go.Proofs.Ytcdgbjklfmlhkaa
open Go.RowKit Num

set_option maxRecDepth 100000 in
set_option maxHeartbeats 3200000 in
theorem rep_any (b n : Nat) (w : World) (hn : n ≤ 5) (hb : b < w.heap.size) (hc : w.cell? ⟨b, 0, none⟩ = some (.bool true)) :
    Calls Try.prog 83 #[.slice (some ⟨b, 0, none⟩) 1 1, .int .i64 (n : Nat)] w fun e w' => e = .returned (.slice (some ⟨w.heap.size, 0, none⟩) n n) ∧ Box w' w.heap.size 4 (trues n n).toArray ∧ Below w.heap.size w w' := by
  have hmk := mk_bool n (by omega)
  have C : Hid (∀ W, _) := Lib.hid fun W => mul_1 n hn W
  obtain ⟨w1, hw1⟩ : ∃ w1, w1 = w.alloc (.cells (madeCells #[.bool false] n) 4) := ⟨_, rfl⟩
  have hX : Box w1 w.heap.size 4 (trues n 0).toArray := by rw [hw1, ← trues_zero]; exact Box.new w _ _
  have hB1 : Below w.heap.size w w1 := by rw [hw1]; exact (Below.refl _ w).alloc (Nat.le_refl _) _
  have hc1 : w1.cell? ⟨b, 0, none⟩ = some (.bool true) := (hB1.cell (p := ⟨b, 0, none⟩) hb).trans hc
  have hcp := fun ty => copy_true n 0 (Nat.min 1 n) w.heap.size b 0 n n 1 ty w1 hX rfl (fun j hj => by
    have hm1 : Nat.min 1 n ≤ 1 := Nat.min_le_left _ _
    obtain rfl : j = 0 := by omega
    exact hc1) (by rw [Nat.zero_add]; exact Nat.min_le_right _ _) 1
  obtain ⟨w2, hw2⟩ : ∃ w2, w2 = w1.setRow w.heap.size (trues n (0 + Nat.min 1 n)).toArray := ⟨_, rfl⟩
  rw [← hw2] at hcp
  have hX2 : Box w2 w.heap.size 4 (trues n (Nat.min 1 n)).toArray := by rw [hw2, Nat.zero_add]; exact setRow_heap w1 _ _ _ _ _ hX
  have hB2 : Below w.heap.size w w2 := by rw [hw2]; exact below_setRow hB1 (Nat.le_refl _) _
  rw [hw1] at hcp
  have nn0 : decide ((n : Int) < 0) = false := decide_eq_false (by omega)
  have nn1 : decide ((9223372036854775807 : Int) < (n : Int)) = false := decide_eq_false (by omega)
  have cu : IntKind.u64.wrap (n : Int) = (n : Int) := by rw [IntWalk.u64_in] <;> omega
  have ci : IntKind.i64.wrap (n : Int) = (n : Int) := IntWalk.i64_in _ (by omega)
  obtain ⟨m1, hm1⟩ : ∃ m1, m1 = Nat.min 1 n := ⟨_, rfl⟩
  rw [← hm1] at hcp hX2
  have hm1n : m1 ≤ n := by rw [hm1]; exact Nat.min_le_right _ _
  have hm11 : 0 < n → m1 = 1 := fun h => by rw [hm1]; exact Nat.min_eq_left h
  have HM := Lib.hid hm1
  clear hw1 hw2 hX hB1 hc1 hc hm1
  go_enter Try.func83, Try.ntmps83
  go_wp2_with (go_at_call 128; refine (C.out _).mono ?_; rintro e w4 ⟨rfl, rfl⟩)
  go_loopg [8] n (fun q iv wr => ∃ k : Nat, (k ≤ n ∧ n ≤ k + q) ∧ iv = .int .i64 (k : Nat) ∧ (0 < n → 0 < k) ∧ Box wr w.heap.size 4 (trues n k).toArray ∧ Below w.heap.size w wr)
  case atStart => exact ⟨m1, ⟨hm1n, by omega⟩, rfl, fun h => by rw [hm11 h]; exact Nat.one_pos, hX2, hB2⟩
  case round =>
    obtain ⟨k, hk, rfl, hk1, hX, hB⟩ := hrel
    by_cases hkn : k < n
    · obtain ⟨m, hmm, hm, hm', hm0⟩ : ∃ m, m = Nat.min k (n - k) ∧ m ≤ k ∧ m ≤ n - k ∧ 0 < m := ⟨_, rfl, Nat.min_le_left _ _, Nat.min_le_right _ _, Nat.lt_min.2 ⟨by omega, by omega⟩⟩
      have hXd : Box wr.drew w.heap.size 4 (trues n k).toArray := hX.below ((Below.refl _ _).drew) hX.lt
      have hcp2 := fun ty => copy_true n k m w.heap.size w.heap.size 0 (n - k) (n - k) k ty wr.drew hXd hmm (fun j hj => by
        rw [Nat.zero_add, hXd.cell, List.getElem?_toArray]
        exact trues_get (by omega)) (by omega) n
      have wkm : IntKind.i64.wrap ((k : Int) + (m : Int)) = ((k + m : Nat) : Int) := by rw [IntWalk.i64_in _ (by omega)]; omega
      have hki : (k : Int) ≤ (n : Int) := by omega
      have hkl : (k : Int) < (n : Int) := by omega
      obtain ⟨w5, hw5⟩ : ∃ w5, w5 = wr.drew.setRow w.heap.size (trues n (k + m)).toArray := ⟨_, rfl⟩
      rw [← hw5] at hcp2
      have hX5 : Box w5 w.heap.size 4 (trues n (k + m)).toArray := by rw [hw5]; exact setRow_heap wr.drew _ _ _ _ _ hXd
      have hB5 : Below w.heap.size w w5 := by rw [hw5]; exact below_setRow hB.drew (Nat.le_refl _) _
      have hnk : ¬ (n = k) := by omega
      clear hcp hmk C hw5 nn0 nn1 cu ci
      go_upto_region 9 with fail
      go_region
      go_wp2_with fail
      go_roundg (gk - 1)
      case rel => exact ⟨k + m, ⟨by omega, by omega⟩, congrArg (Value.int .i64) (by rw [hmm]; exact (Int.natCast_add _ _).symm), fun _ => by omega, hX5, hB5⟩
      case measure => omega
    · obtain rfl : k = n := by omega
      go_wp2_with fail
      go_ret
      exact ⟨rfl, hX, hB⟩

end Go.Proofs.Ytcdgbjklfmlhkaa
