/-
  The program's searches in lists, its test of names, of choices and of later statements.
-/
import Derived.Test.YtoaiejodbmkbjaaGreatDoorPgVs
namespace Go.Proofs.YtoaiejodbmkbjaaGreatDoor
open Go.RowKit Num

/-- Texts in a block not older than lo. -/
def StL (lo : Nat) (w : World) (A : Option Addr) (n : Nat) (S : Nat → ByteArray) : Prop := 0 < n → ∃ b off, A = some ⟨b, off, none⟩ ∧ (lo ≤ b ∧ b < w.heap.size) ∧ ∀ j, j < n → w.cell? ⟨b, off + j, none⟩ = some (.string (S j))
theorem StL.keep {lo : Nat} {w w' : World} {A : Option Addr} {n : Nat} {S : Nat → ByteArray} (h : StL lo w A n S) (k : Keeps lo w w') : StL lo w' A n S := fun h0 => by
  obtain ⟨b, off, rfl, ⟨h1, h2⟩, h3⟩ := h h0
  exact ⟨b, off, rfl, ⟨h1, Nat.lt_of_lt_of_le h2 k.1⟩, fun j hj => (World.cell?_of_block (a := ⟨b, off + j, none⟩) (k.2 b h1 h2)).trans (h3 j hj)⟩
theorem StL.below {lo B : Nat} {w w' : World} {A : Option Addr} {n : Nat} {S : Nat → ByteArray} (h : StL lo w A n S) (hb : Below B w w') (hB : w.heap.size ≤ B) : StL lo w' A n S := h.keep (.of_below hb hB)
theorem StL.at_ {lo : Nat} {w : World} {A : Option Addr} {n : Nat} {S : Nat → ByteArray} (h : StL lo w A n S) {j : Nat} (hj : j < n) : ∃ b off, A = some ⟨b, off, none⟩ ∧ b < w.heap.size ∧ w.cell? ⟨b, off + j, none⟩ = some (.string (S j)) := by
  obtain ⟨b, off, rfl, h1, h2⟩ := h (by omega)
  exact ⟨b, off, rfl, h1.2, h2 j hj⟩
theorem StL.left {lo : Nat} {w : World} {A : Option Addr} {n m : Nat} {S : Nat → ByteArray} (h : StL lo w A n S) (hm : m ≤ n) : StL lo w A m S := fun h0 => by
  obtain ⟨b, off, rfl, h1, h2⟩ := h (by omega)
  exact ⟨b, off, rfl, h1, fun j hj => h2 j (by omega)⟩

def IdxPost (p : Prop) (w : World) (e : Ending) (w' : World) : Prop := ∃ r : Int, e = .returned (.int .i64 r) ∧ Hid (0 ≤ r ↔ p) ∧ Below w.heap.size w w'

set_option maxRecDepth 100000 in
set_option maxHeartbeats 1600000 in
theorem idxS_any (lo : Nat) (A0 : Option Addr) (n cap : Nat) (S : Nat → ByteArray) (s : ByteArray) (w : World) (hn : n ≤ 1048576) (hA : StL lo w A0 n S) :
    Calls Tryz.prog 91 #[.slice A0 n cap, .string s] w (IdxPost (∃ j, j < n ∧ S j = s) w) := by
  have HA := Lib.hid hA; clear hA
  go_enter Tryz.func91, Tryz.ntmps91
  go_wp2_with fail
  go_loopg [8] n (fun q iv wr => ∃ k : Nat, k + q = n ∧ iv = .int .i64 (k : Nat) ∧ Hid (∀ j, j < k → S j ≠ s) ∧ Below w.heap.size w wr)
  case atStart => exact ⟨0, by omega, rfl, Lib.hid fun j h => by omega, Below.refl _ _⟩
  case round =>
    obtain ⟨k, hk, rfl, hq, hbel⟩ := hrel
    by_cases hk0 : k < n
    · obtain ⟨b, off, rfl, hb, r0⟩ := (HA.out.below hbel (Nat.le_refl _)).at_ hk0
      cases he : (s.toList == (S k).toList) with
      | true =>
        have HE := Lib.hid (toList_inj he)
        go_wp2_with fail
        go_ret
        exact ⟨(k : Int), rfl, Lib.hid ⟨fun _ => ⟨k, hk0, HE.out.symm⟩, fun _ => by omega⟩, hbel⟩
      | false =>
        have HE := Lib.hid (ne_of_lists he)
        go_wp2_with fail
        go_roundg (gk - 1)
        case rel => exact ⟨k + 1, by omega, by go_num, Lib.hid fun j hj => by
          by_cases hjk : j < k
          · exact hq.out j hjk
          · obtain rfl : j = k := by omega
            exact fun h => HE.out h.symm, hbel⟩
        case measure => omega
    · obtain rfl : k = n := by omega
      go_wp2_with fail
      go_ret
      exact ⟨-1, rfl, Lib.hid ⟨fun h => by omega, fun ⟨j, hj, h⟩ => absurd h (hq.out j hj)⟩, hbel⟩

set_option maxRecDepth 100000 in
theorem hasStr_any (lo : Nat) (A0 : Option Addr) (n cap : Nat) (S : Nat → ByteArray) (s : ByteArray) (w : World) (hn : n ≤ 1048576) (hA : StL lo w A0 n S) :
    Calls Tryz.prog 81 #[.slice A0 n cap, .string s] w (Yn (∃ j, j < n ∧ S j = s) w) := by
  have C := Lib.hid (idxS_any lo A0 n cap S s w hn hA)
  clear hA
  go_enter Tryz.func81, Tryz.ntmps81
  go_wp2_with (go_at_call 91; refine C.out.mono ?_; rintro e w1 ⟨r, rfl, hr, hb⟩)
  go_ret
  exact ⟨_, rfl, Lib.hid ⟨fun h => hr.out.1 (by simpa using h), fun h => by simpa using hr.out.2 h⟩, hb⟩

/-- The first n texts are valid names, no two of them the same. -/
def NamesOk (S : Nat → ByteArray) (n : Nat) : Prop := ∀ i, i < n → nameOk (S i) = true ∧ ∀ j, j < i → S j ≠ S i

set_option maxRecDepth 100000 in
set_option maxHeartbeats 3200000 in
theorem distinct_any (lo : Nat) (A0 : Option Addr) (n cap : Nat) (S : Nat → ByteArray) (w : World) (hn : n ≤ 1048576) (hcap : n ≤ cap) (hS : ∀ j, j < n → (S j).size ≤ 1048576) (hA : StL lo w A0 n S) :
    Calls Tryz.prog 65 #[.slice A0 n cap] w (Yn (NamesOk S n) w) := by
  have HA := Lib.hid hA; clear hA
  have HS := Lib.hid hS; clear hS
  go_enter Tryz.func65, Tryz.ntmps65
  go_wp2_with fail
  go_loopg [7] n (fun q iv wr => ∃ k : Nat, k + q = n ∧ iv = .int .i64 (k : Nat) ∧ Hid (∀ i, i < k → nameOk (S i) = true ∧ ∀ j, j < i → S j ≠ S i) ∧ Below w.heap.size w wr)
  case atStart => exact ⟨0, by omega, rfl, Lib.hid fun j h => by omega, Below.refl _ _⟩
  case round =>
    obtain ⟨k, hk, rfl, hq, hbel⟩ := hrel
    by_cases hk0 : k < n
    · have hAr := HA.out.below hbel (Nat.le_refl _)
      obtain ⟨b, off, rfl, hb, r0⟩ := hAr.at_ hk0
      have CN : Hid (∀ W, _) := Lib.hid fun W => implName_any (S k) W (by have := HS.out k hk0; omega)
      cases hno : nameOk (S k) with
      | false =>
        rw [hno] at CN
        have HE := Lib.hid hno
        clear hno hAr
        go_wp2_with (go_at_call 80; refine (CN.out _).mono ?_; rintro e w3 ⟨rfl, hb3⟩)
        go_ret
        exact Yn.no (fun h => by have := (h k hk0).1; rw [HE.out] at this; cases this) (hbel.trans (hb3.mono hbel.size))
      | true =>
        rw [hno] at CN
        have HE := Lib.hid hno
        have CC : Hid (∀ W, Below wr.heap.size wr W → _) := Lib.hid fun W hW => hasStr_any lo (some ⟨b, off, none⟩) k cap S (S k) W (by omega) ((hAr.below hW (Nat.le_refl _)).left (by omega))
        clear hno hAr
        have hcap0 : ¬ (cap = 0) := by omega
        have hcap1 : ¬ (cap = k) := by omega
        have hlec : (k : Int) ≤ (cap : Int) := by omega
        have hlen : (k : Int) ≤ (n : Int) := by omega
        go_wp2_with (first
          | (go_at_call 80; refine (CN.out _).mono ?_; rintro e w3 ⟨rfl, hb3⟩)
          | (go_at_call 81; refine (CC.out _ hb3).mono ?_; rintro e w4 ⟨r, rfl, hr, hb4⟩))
        all_goals first
          | (go_ret
             exact Yn.no (fun h => by obtain ⟨j, hj, e⟩ := hr.out.1 (by assumption); exact (h k hk0).2 j hj e) (hbel.trans ((hb3.trans (hb4.mono hb3.size)).mono hbel.size)))
          | (have HR : Hid (¬ ∃ j, j < k ∧ S j = S k) := Lib.hid (fun h => absurd (hr.out.2 h) (by first | assumption | simp_all))
             go_roundg (gk - 1)
             case rel => exact ⟨k + 1, by omega, by go_num, Lib.hid fun j hj => by
               by_cases hjk : j < k
               · exact hq.out j hjk
               · obtain rfl : j = k := by omega
                 exact ⟨HE.out, fun i hi e => HR.out ⟨i, hi, e⟩⟩, hbel.trans ((hb3.trans (hb4.mono hb3.size)).mono hbel.size)⟩
             case measure => omega)
    · obtain rfl : k = n := by omega
      go_wp2_with fail
      go_ret
      exact Yn.yes hq.out hbel

set_option maxRecDepth 100000 in
set_option maxHeartbeats 1600000 in
theorem after_any (lo : Nat) (A0 : Option Addr) (n cap at_ : Nat) (f : Nat → Int) (w : World) (hn : n ≤ 1048576) (hA : IntsAt lo w A0 n f) :
    Calls Tryz.prog 69 #[.int .i64 (at_ : Nat), .slice A0 n cap] w (Yn (∀ j, j < n → (at_ : Int) < f j) w) := by
  have HA := Lib.hid hA; clear hA
  go_enter Tryz.func69, Tryz.ntmps69
  go_wp2_with fail
  go_loopg [9] n (fun q iv wr => ∃ k : Nat, k + q = n ∧ iv = .int .i64 (k : Nat) ∧ Hid (∀ j, j < k → (at_ : Int) < f j) ∧ Below w.heap.size w wr)
  case atStart => exact ⟨0, by omega, rfl, Lib.hid fun j h => by omega, Below.refl _ _⟩
  case round =>
    obtain ⟨k, hk, rfl, hq, hbel⟩ := hrel
    by_cases hk0 : k < n
    · obtain ⟨b, off, rfl, hb, r0⟩ := (HA.out.below hbel (Nat.le_refl _)).at_ hk0
      cases he : decide (f k ≤ (at_ : Int)) with
      | true =>
        have HE := Lib.hid (of_decide_eq_true he)
        go_wp2_with fail
        go_ret
        exact Yn.no (fun h => by have := h k hk0; have := HE.out; omega) hbel
      | false =>
        have HE := Lib.hid (of_decide_eq_false he)
        go_wp2_with fail
        go_roundg (gk - 1)
        case rel => exact ⟨k + 1, by omega, by go_num, Lib.hid fun j hj => by
          by_cases hjk : j < k
          · exact hq.out j hjk
          · obtain rfl : j = k := by omega
            have := HE.out
            omega, hbel⟩
        case measure => omega
    · obtain rfl : k = n := by omega
      go_wp2_with fail
      go_ret
      exact Yn.yes hq.out hbel

end Go.Proofs.YtoaiejodbmkbjaaGreatDoor
