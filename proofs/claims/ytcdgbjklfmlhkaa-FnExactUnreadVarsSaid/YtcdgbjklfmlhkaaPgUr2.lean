/-
  slices.Repeat of one bool, at most five times.
-/
import Derived.Test.YtcdgbjklfmlhkaaPgUr1
import Derived.Laws.CopyOwn
import Derived.Deep.RegionLaw
namespace Go.Proofs.Ytcdgbjklfmlhkaa
open Go.RowKit Num

set_option maxRecDepth 100000 in
set_option maxHeartbeats 3200000 in
theorem mul64_1 (n : Nat) (hn : n ≤ 5) (w : World) :
    Calls Try.prog 158 #[.int .u64 1, .int .u64 (n : Nat)] w fun e w' => e = .returned (.tuple #[.int .u64 0, .int .u64 (n : Nat)]) ∧ w = w' := by
  match n, hn with
  | 0, _ | 1, _ | 2, _ | 3, _ | 4, _ | 5, _ =>
    go_enter Try.func158, Try.ntmps158
    go_wp2_with fail
    go_ret2
    exact ⟨rfl, rfl⟩

set_option maxRecDepth 100000 in
set_option maxHeartbeats 3200000 in
theorem mul_1 (n : Nat) (hn : n ≤ 5) (w : World) :
    Calls Try.prog 128 #[.int .u64 1, .int .u64 (n : Nat)] w fun e w' => e = .returned (.tuple #[.int .u64 0, .int .u64 (n : Nat)]) ∧ w = w' := by
  have C : Hid (∀ W, _) := Lib.hid fun W => mul64_1 n hn W
  go_enter Try.func128, Try.ntmps128
  go_wp2_with (go_at_call 158; refine (C.out _).mono ?_; rintro e w1 ⟨rfl, rfl⟩)
  go_ret2
  exact ⟨rfl, rfl⟩

theorem Try.sizeBool3 : (Try.prog.info? 4).map (fun i => i.size) = some 1 := by kernel_rfl

/-- k trues and the rest false. -/
def trues (n k : Nat) : List Value := List.replicate k (.bool true) ++ List.replicate (n - k) (.bool false)
theorem trues_len (n k : Nat) (h : k ≤ n) : (trues n k).length = n := by simp [trues]; omega
theorem trues_step (n k m : Nat) (_h : k + m ≤ n) : (trues n k).take k ++ List.replicate m (Value.bool true) ++ (trues n k).drop (k + m) = trues n (k + m) := by
  have h1 : (trues n k).take k = List.replicate k (.bool true) := by simp [trues]
  have h2 : (trues n k).drop (k + m) = List.replicate (n - (k + m)) (.bool false) := by
    simp only [trues, List.drop_append, List.length_replicate, List.drop_replicate]
    rw [show k - (k + m) = 0 by omega, show k + m - k = m by omega, show n - k - m = n - (k + m) by omega]
    rfl
  rw [h1, h2, List.replicate_append_replicate, trues]
theorem trues_get {n k j : Nat} (hj : j < k) : (trues n k)[j]? = some (.bool true) := by
  rw [trues, List.getElem?_append_left (by simpa using hj), List.getElem?_replicate, if_pos hj]
theorem trues_zero (n : Nat) : (madeCells #[Value.bool false] n) = (trues n 0).toArray := by
  apply Array.toList_inj.1
  rw [toList_madeCells_one]
  simp [trues]

/-- copy of trues onto the rest of the block. -/
theorem copy_true (n k m g a off d c sc ty : Nat) (w : World) (hg : Box w g 4 (trues n k).toArray) (hm : m = Nat.min sc d) (hsrc : ∀ j, j < m → w.cell? ⟨a, off + j, none⟩ = some (.bool true)) (hk : k + m ≤ n) (cc : Nat) :
    (Builtin.copy_ #[89, 89] ty #[.slice (some ⟨g, k, none⟩) d c, .slice (some ⟨a, off, none⟩) sc cc]).run Try.prog w = .ok (.int .i64 (m : Nat)) (w.setRow g (trues n (k + m)).toArray) := by
  have h := run_copy_row (P := Try.prog) w 89 89 ty 4 g k d c ⟨a, off, none⟩ sc cc (trues n k).toArray 4 (List.replicate m (Value.bool true)) Try.underlying89 Try.sizeBool3 hg (by rw [List.length_replicate]; exact hm)
    (fun j v hj => by
      rw [List.getElem?_replicate] at hj
      split at hj
      · next hjm =>
        cases hj
        have := hsrc j hjm
        rw [show (⟨a, off, none⟩ : Addr).add j = ⟨a, off + j, none⟩ by unfold Addr.add; split <;> simp_all]
        exact this
      · cases hj)
    (by rw [List.length_replicate, List.size_toArray, trues_len n k (by omega)]; exact hk)
    (fun v hv => by rw [(List.mem_replicate.1 hv).2]; rfl)
  rw [List.length_replicate, List.toList_toArray, trues_step n k m hk] at h
  exact h

end Go.Proofs.Ytcdgbjklfmlhkaa
