/-
  Lists of ints and of structs of plain cells: the program's and the model's tests of equality.
-/
import Derived.Test.YtcjaknojeaoffaaPgSz
import Derived.Laws.StructEq
namespace Go.Proofs.Ytcjaknojeaoffaa
open Go.RowKit Num

/-- A test's post: a bool that is true just where p holds. -/
def Yn (p : Prop) (w : World) (e : Ending) (w' : World) : Prop := ∃ r : Bool, e = .returned (.bool r) ∧ Hid (r = true ↔ p) ∧ Below w.heap.size w w'

theorem Yn.no {p : Prop} {w w' : World} (h : ¬ p) (hb : Below w.heap.size w w') : Yn p w (.returned (.bool false)) w' := ⟨false, rfl, Lib.hid ⟨fun h' => (by cases h'), fun h' => absurd h' h⟩, hb⟩
theorem Yn.yes {p : Prop} {w w' : World} (h : p) (hb : Below w.heap.size w w') : Yn p w (.returned (.bool true)) w' := ⟨true, rfl, Lib.hid ⟨fun _ => h, fun _ => rfl⟩, hb⟩

/-- Two lists are equal. -/
def LsEq {α : Type} (n : Nat) (f : Nat → α) (m : Nat) (g : Nat → α) : Prop := n = m ∧ ∀ j, j < n → f j = g j

theorem toList_inj {a b : ByteArray} (h : (a.toList == b.toList) = true) : a = b := by
  have h := eq_of_beq h
  rw [ByteArray.toList_eq, ByteArray.toList_eq] at h
  obtain ⟨⟨x⟩⟩ := a
  obtain ⟨⟨y⟩⟩ := b
  simpa using h

set_option maxRecDepth 100000 in
set_option maxHeartbeats 1600000 in
theorem eqInts_any (lo lo' : Nat) (A0 A1 : Option Addr) (n m c0 c1 : Nat) (f : Nat → Int) (g : Nat → Int) (w : World) (hn : n ≤ 1048576) (hm : m ≤ 1048576) (h0 : IntsAt lo w A0 n f) (h1 : IntsAt lo' w A1 m g) :
    Calls Try.prog 14 #[.slice A0 n c0, .slice A1 m c1] w (Yn (LsEq n f m g) w) := by
  have H0 := Lib.hid h0; clear h0
  have H1 := Lib.hid h1; clear h1
  by_cases hnm : n = m
  · subst hnm
    go_enter Try.func14, Try.ntmps14
    go_wp2_with fail
    go_loopg [13] n (fun q iv wr => ∃ k : Nat, k + q = n ∧ iv = .int .i64 (k : Nat) ∧ Hid (∀ j, j < k → f j = g j) ∧ Below w.heap.size w wr)
    case atStart => exact ⟨0, by omega, rfl, Lib.hid fun j h => by omega, Below.refl _ _⟩
    case round =>
      obtain ⟨k, hk, rfl, hq, hbel⟩ := hrel
      by_cases hk0 : k < n
      · obtain ⟨b, off, rfl, hb, r0⟩ := (H0.out.below hbel (Nat.le_refl _)).at_ hk0
        obtain ⟨b', off', rfl, hb', r1⟩ := (H1.out.below hbel (Nat.le_refl _)).at_ hk0
        cases he : (f k == g k) with
        | true =>
          have HE : Hid (f k = g k) := Lib.hid (eq_of_beq he)
          skip
          go_upto_region 6 with fail
          go_quiet (fail)
          go_wp2_with fail
          go_roundg (gk - 1)
          case rel => exact ⟨k + 1, by omega, by go_num, Lib.hid fun j hj => by
            by_cases hjk : j < k
            · exact hq.out j hjk
            · obtain rfl : j = k := by omega
              exact HE.out, below_drewN _ hbel⟩
          case measure => omega
        | false =>
          have HE : Hid (f k ≠ g k) := Lib.hid (by simpa using he)
          skip
          go_upto_region 6 with fail
          go_quiet (fail)
          go_wp2_with fail
          go_ret
          exact Yn.no (fun h => HE.out (h.2 k hk0)) (below_drewN _ hbel)
      · obtain rfl : k = n := by omega
        go_wp2_with fail
        go_ret
        exact Yn.yes ⟨rfl, hq.out⟩ hbel
  · have hne : ((n : Int) == (m : Int)) = false := by rw [beq_eq_false_iff_ne]; omega
    go_enter Try.func14, Try.ntmps14
    go_wp2_with fail
    go_ret
    exact Yn.no (fun h => hnm h.1) (Below.refl _ _)

set_option maxRecDepth 100000 in
set_option maxHeartbeats 1600000 in
theorem sameInts_any (lo lo' : Nat) (A0 A1 : Option Addr) (n m c0 c1 : Nat) (f : Nat → Int) (g : Nat → Int) (w : World) (hn : n ≤ 1048576) (hm : m ≤ 1048576) (h0 : IntsAt lo w A0 n f) (h1 : IntsAt lo' w A1 m g) :
    Calls Try.prog 10 #[.slice A0 n c0, .slice A1 m c1] w (Yn (LsEq n f m g) w) := by
  have H0 := Lib.hid h0; clear h0
  have H1 := Lib.hid h1; clear h1
  by_cases hnm : n = m
  · subst hnm
    go_enter Try.func10, Try.ntmps10
    go_wp2_with fail
    go_loopg [13] n (fun q iv wr => ∃ k : Nat, k + q = n ∧ iv = .int .i64 (k : Nat) ∧ Hid (∀ j, j < k → f j = g j) ∧ Below w.heap.size w wr)
    case atStart => exact ⟨0, by omega, rfl, Lib.hid fun j h => by omega, Below.refl _ _⟩
    case round =>
      obtain ⟨k, hk, rfl, hq, hbel⟩ := hrel
      by_cases hk0 : k < n
      · obtain ⟨b, off, rfl, hb, r0⟩ := (H0.out.below hbel (Nat.le_refl _)).at_ hk0
        obtain ⟨b', off', rfl, hb', r1⟩ := (H1.out.below hbel (Nat.le_refl _)).at_ hk0
        cases he : (f k == g k) with
        | true =>
          have HE : Hid (f k = g k) := Lib.hid (eq_of_beq he)
          skip
          go_upto_region 6 with fail
          go_quiet (fail)
          go_wp2_with fail
          go_roundg (gk - 1)
          case rel => exact ⟨k + 1, by omega, by go_num, Lib.hid fun j hj => by
            by_cases hjk : j < k
            · exact hq.out j hjk
            · obtain rfl : j = k := by omega
              exact HE.out, below_drewN _ hbel⟩
          case measure => omega
        | false =>
          have HE : Hid (f k ≠ g k) := Lib.hid (by simpa using he)
          skip
          go_upto_region 6 with fail
          go_quiet (fail)
          go_wp2_with fail
          go_ret
          exact Yn.no (fun h => HE.out (h.2 k hk0)) (below_drewN _ hbel)
      · obtain rfl : k = n := by omega
        go_wp2_with fail
        go_ret
        exact Yn.yes ⟨rfl, hq.out⟩ hbel
  · have hne : ((n : Int) == (m : Int)) = false := by rw [beq_eq_false_iff_ne]; omega
    go_enter Try.func10, Try.ntmps10
    go_wp2_with fail
    go_ret
    exact Yn.no (fun h => hnm h.1) (Below.refl _ _)

end Go.Proofs.Ytcjaknojeaoffaa
