/-
  The program's trimming of leading zero words, and a word as a number.
-/
import Derived.Test.YtdjldhkmcmbiiaaDoorTrim
namespace Go.Proofs.YtdjldhkmcmbiiaaDoor
open Go.RowKit Num

/-- The base of the program's numbers, 2^64, behind a name. -/
def WB : Nat := 18446744073709551616
theorem WB_val : WB = 18446744073709551616 := rfl
theorem WB_two : 2 ≤ WB := by unfold WB; omega

theorem Tryd.info_u64 : (Tryd.prog.info? 94).map (fun i => (i.zero, i.size, i.bytes)) = some (some (.int .u64 0), 1, 8) := by kernel_rfl

set_option maxHeartbeats 400000 in
theorem trimW_row (b off n cap m : Nat) (d : Nat → Nat) (w : World) (hn : n ≤ cap) (hcap : cap ≤ maxLen) (hm : m ≤ n)
    (hA : ∀ j, j < n → w.cell? ⟨b, off + j, none⟩ = some (.int .u64 (d j : Nat))) (hz : ∀ j, m ≤ j → j < n → d j = 0) (hnz : 0 < m → d (m - 1) ≠ 0) :
    Calls Tryd.prog 102 #[.slice (some ⟨b, off, none⟩) n cap] w fun e w' => e = .returned (.slice (some ⟨b, off, none⟩) m cap) ∧ w = w' := by
  unfold maxLen at hcap
  have HA := Lib.hid hA; clear hA
  have HZ := Lib.hid hz; clear hz
  have HNZ := Lib.hid hnz; clear hnz
  go_enter Tryd.func102, Tryd.ntmps102
  go_wp2_with fail
  go_loop [0] (fun v => ∃ k : Nat, m ≤ k ∧ k ≤ n ∧ v = .slice (some ⟨b, off, none⟩) k cap) (fun v => match v with | .slice _ k _ => k | _ => 0)
  case atStart => exact ⟨n, by omega, by omega, rfl⟩
  case round =>
    obtain ⟨k, hk1, hk2, rfl⟩ := hrel
    by_cases hk0 : 0 < k
    · have h1 : w.cell? ⟨b, off + (k - 1), none⟩ = some (.int .u64 (d (k - 1) : Nat)) := HA.out (k - 1) (by omega)
      by_cases hkm : k = m
      · have h2 := HNZ.out (by omega)
        subst hkm
        have h3 : ((d (k - 1) : Int) == 0) = false := by rw [beq_eq_false_iff_ne]; omega
        go_wp2_with fail
        go_ret
        exact ⟨rfl, rfl⟩
      · have h2 := HZ.out (k - 1) (by omega) (by omega)
        have h3 : ((d (k - 1) : Int) == 0) = true := by rw [beq_iff_eq]; omega
        have H2 := Lib.hid h2; clear h2
        go_wp2_with fail
        go_round
        case rel => exact ⟨k - 1, by omega, by omega, rfl⟩
        case measure => simp; omega
    · obtain rfl : k = 0 := by omega
      obtain rfl : m = 0 := by omega
      go_wp2_with fail
      go_ret
      exact ⟨rfl, rfl⟩

set_option maxHeartbeats 400000 in
theorem trimW_nil (w : World) :
    Calls Tryd.prog 102 #[.slice none 0 0] w fun e w' => e = .returned (.slice none 0 0) ∧ w = w' := by
  go_enter Tryd.func102, Tryd.ntmps102
  go_wp2_with fail
  refine wp_loop_rounds 1 ?_
  rw [rounds_succ]
  go_wp2_with fail
  go_ret
  exact ⟨rfl, rfl⟩

/-- Trimming a row of digits: the result is the number, in the same block. -/
theorem trimW_at (v : Value) (xs : List Nat) (w : World) (hd : Dig WB xs) (h : RowF 94 .u64 w v xs.length fun j => xs.getD j 0) :
    Calls Tryd.prog 102 #[v] w fun e w' => (∃ v', e = .returned v' ∧ Nums 94 .u64 WB w v' (val WB xs) ∧ v'.ownBlock = v.ownBlock) ∧ w = w' := by
  rcases h with ⟨rfl, h0⟩ | ⟨b, off, cap, rfl, h1, h2, h3, h4⟩
  · have hx : xs = [] := List.eq_nil_of_length_eq_zero h0
    subst hx
    exact (trimW_nil w).mono fun e w' ⟨he, hw⟩ => ⟨⟨_, he, .inl ⟨rfl, rfl⟩, rfl⟩, hw⟩
  · obtain ⟨m, hm, hz, hnz⟩ := top_nonzero (fun j => xs.getD j 0) xs.length
    refine (trimW_row b off xs.length cap m _ w h1 h2 hm h4 hz hnz).mono fun e w' ⟨he, hw⟩ => ⟨⟨_, he, ?_, rfl⟩, hw⟩
    exact strip_row WB_two xs hd hm hz hnz (.inr ⟨b, off, cap, rfl, by omega, h2, h3, fun j hj => h4 j (by omega)⟩)

/-- Trimming a row of digits: the result is the number. -/
theorem trimW_any (v : Value) (xs : List Nat) (w : World) (hd : Dig WB xs) (h : RowF 94 .u64 w v xs.length fun j => xs.getD j 0) :
    Calls Tryd.prog 102 #[v] w fun e w' => (∃ v', e = .returned v' ∧ Nums 94 .u64 WB w v' (val WB xs)) ∧ w = w' :=
  (trimW_at v xs w hd h).mono fun _ _ ⟨⟨v', he, hn, _⟩, hw⟩ => ⟨⟨v', he, hn⟩, hw⟩


set_option maxHeartbeats 400000 in
/-- A word as a number. -/
theorem ofWord_any (x : Nat) (hx : x < WB) (w : World) :
    Calls Tryd.prog 87 #[.int .u64 x] w fun e w' => (∃ v, e = .returned v ∧ Nums 94 .u64 WB w' v x) ∧ Below w.heap.size w w' := by
  have hr : RowF 94 .u64 (w.alloc (.cells #[.int .u64 (x : Nat)] 94)) (.slice (some ⟨w.heap.size, 0, none⟩) 1 1) [x].length fun j => [x].getD j 0 :=
    .inr ⟨w.heap.size, 0, 1, rfl, by simp, by unfold maxLen; omega, ⟨_, Box.new w _ _⟩, fun j hj => by
      obtain rfl : j = 0 := by simpa using hj
      exact (Box.new w 94 #[.int .u64 (x : Nat)]).cell 0⟩
  have hd : Dig WB [x] := fun y hy => by
    rcases List.mem_singleton.1 hy with rfl
    exact hx
  have Hr := Lib.hid hr; clear hr
  clear hx
  go_enter Tryd.func87, Tryd.ntmps87
  go_wp2_with (go_at_call 102; refine (trimW_any _ [x] _ hd Hr.out).mono ?_; rintro e w' ⟨⟨v', rfl, hv'⟩, rfl⟩)
  go_ret
  refine ⟨⟨_, rfl, ?_⟩, (Below.refl _ w).alloc (Nat.le_refl _) _⟩
  simpa [val] using hv'

end Go.Proofs.YtdjldhkmcmbiiaaDoor
