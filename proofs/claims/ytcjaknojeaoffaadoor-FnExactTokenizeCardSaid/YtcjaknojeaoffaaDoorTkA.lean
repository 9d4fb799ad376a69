/-
  Letters, symbols and cuts of a text: the small functions of both sides.
-/
import Derived.Test.YtcjaknojeaoffaaDoorDnC
import Derived.Lib.OthersKept
import Derived.Laws.Runes
import Derived.Laws.RangeAny
import Derived.Lib.SlBytesConst
namespace Go.Proofs.YtcjaknojeaoffaaDoor
open Go.RowKit Num

/-- A letter or a digit. -/
def isW (x : Int) : Bool := (decide (97 ≤ x) && decide (x ≤ 122)) || (decide (48 ≤ x) && decide (x ≤ 57))

set_option maxRecDepth 100000 in
set_option maxHeartbeats 3200000 in
theorem wordRune_any (x : Int) (w : World) :
    Calls Tryd.prog 34 #[.int .i32 x] w fun e w' => e = .returned (.bool (isW x)) ∧ w' = w := by
  by_cases h1 : 97 ≤ x <;> by_cases h2 : x ≤ 122 <;> by_cases h3 : 48 ≤ x <;> by_cases h4 : x ≤ 57
  all_goals first
    | (exfalso; omega)
    | (go_enter Tryd.func34, Tryd.ntmps34
       go_wp2_with fail
       go_ret
       exact ⟨by simp [isW, h1, h2, h3, h4], rfl⟩)

set_option maxRecDepth 100000 in
set_option maxHeartbeats 3200000 in
theorem word_any (x : Int) (w : World) :
    Calls Tryd.prog 32 #[.int .u8 x] w fun e w' => e = .returned (.bool (isW x)) ∧ w' = w := by
  by_cases h1 : 97 ≤ x <;> by_cases h2 : x ≤ 122 <;> by_cases h3 : 48 ≤ x <;> by_cases h4 : x ≤ 57
  all_goals first
    | (exfalso; omega)
    | (go_enter Tryd.func32, Tryd.ntmps32
       go_wp2_with fail
       go_ret
       exact ⟨by simp [isW, h1, h2, h3, h4], rfl⟩)

/-- Two letters that follow each other belong together, and a colon and an equals sign. -/
def tg (a b : Int) : Bool := (isW a && isW b) || (a == 58 && b == 61)

set_option maxRecDepth 100000 in
set_option maxHeartbeats 3200000 in
theorem together_any (a b : Int) (w : World) :
    Calls Tryd.prog 36 #[.int .i32 a, .int .i32 b] w fun e w' => e = .returned (.bool (tg a b)) ∧ w' = w := by
  have C1 := Lib.hid (wordRune_any a w)
  have C2 := Lib.hid (wordRune_any b w)
  cases h1 : isW a <;> cases h2 : isW b <;> cases h3 : (a == 58) <;> cases h4 : (b == 61)
  all_goals rw [h1] at C1
  all_goals rw [h2] at C2
  all_goals
    (go_enter Tryd.func36, Tryd.ntmps36
     go_wp2_with (first
       | (go_at_call 34; with_reducible refine C1.out.mono ?_; rintro e w1 ⟨rfl, rfl⟩)
       | (go_at_call 34; with_reducible refine C2.out.mono ?_; rintro e w1 ⟨rfl, rfl⟩))
     go_ret
     exact ⟨by simp [tg, h1, h2, h3, h4], rfl⟩)

/-- The symbols that stand alone. -/
def symL : List Nat := [40, 41, 123, 125, 43, 45, 42, 61, 60]
def symF : Nat → Nat
  | 0 => 40 | 1 => 41 | 2 => 123 | 3 => 125 | 4 => 43 | 5 => 45 | 6 => 42 | 7 => 61 | _ => 60
theorem mem_sym (b : Nat) : b ∈ symL ↔ ∃ k, k < 9 ∧ symF k = b := by
  constructor
  · intro h
    simp only [symL, List.mem_cons, List.mem_nil_iff, or_false] at h
    rcases h with rfl | rfl | rfl | rfl | rfl | rfl | rfl | rfl | rfl
    · exact ⟨0, by omega, rfl⟩
    · exact ⟨1, by omega, rfl⟩
    · exact ⟨2, by omega, rfl⟩
    · exact ⟨3, by omega, rfl⟩
    · exact ⟨4, by omega, rfl⟩
    · exact ⟨5, by omega, rfl⟩
    · exact ⟨6, by omega, rfl⟩
    · exact ⟨7, by omega, rfl⟩
    · exact ⟨8, by omega, rfl⟩
  · rintro ⟨k, hk, rfl⟩
    match k, hk with
    | 0, _ => decide
    | 1, _ => decide
    | 2, _ => decide
    | 3, _ => decide
    | 4, _ => decide
    | 5, _ => decide
    | 6, _ => decide
    | 7, _ => decide
    | 8, _ => decide
theorem sym_cell (k : Nat) (hk : k < 9) : (#[Value.int .u8 40, .int .u8 41, .int .u8 123, .int .u8 125, .int .u8 43, .int .u8 45, .int .u8 42, .int .u8 61, .int .u8 60] : Array Value)[k]? = some (.int .u8 ((symF k : Nat) : Int)) := by
  match k, hk with
  | 0, _ => rfl
  | 1, _ => rfl
  | 2, _ => rfl
  | 3, _ => rfl
  | 4, _ => rfl
  | 5, _ => rfl
  | 6, _ => rfl
  | 7, _ => rfl
  | 8, _ => rfl

set_option maxRecDepth 100000 in
set_option maxHeartbeats 3200000 in
theorem symbol_any (b : Nat) (w : World) :
    Calls Tryd.prog 33 #[.int .u8 (b : Nat)] w (Yd (b ∈ symL) w) := by
  obtain ⟨C, hC⟩ : ∃ C : Array Value, C = #[.int .u8 40, .int .u8 41, .int .u8 123, .int .u8 125, .int .u8 43, .int .u8 45, .int .u8 42, .int .u8 61, .int .u8 60] := ⟨_, rfl⟩
  have hcv := Lib.run_convert_bytes_const (P := Tryd.prog) w 42 5 C 9 9 Tryd.underlying42 Tryd.underlying5
  obtain ⟨w1, hw1⟩ : ∃ w1, w1 = w.alloc (.cells C 5 (C.size, C.size + 1)) := ⟨_, rfl⟩
  have hG : ∀ k, k < 9 → w1.cell? ⟨w.heap.size, k, none⟩ = some (.int .u8 ((symF k : Nat) : Int)) := fun k hk => by
    have h := sym_cell k hk
    rw [← hC] at h
    rw [← h, hw1]
    have hb : (w.alloc (.cells C 5 (C.size, C.size + 1))).heap[w.heap.size]? = some (.cells C 5 (C.size, C.size + 1)) := by
      show (w.heap.push _)[w.heap.size]? = _
      simp
    unfold World.cell?
    rw [hb]
    rfl
  have hB : Below w.heap.size w w1 := by rw [hw1]; exact (Below.refl w.heap.size w).alloc (Nat.le_refl _) _
  rw [← hw1] at hcv
  rw [hC] at hcv
  have HG := Lib.hid hG
  clear hC hw1 hG
  go_enter Tryd.func33, Tryd.ntmps33
  go_wp2_with fail
  clear hcv
  go_loopg [8] 9 (fun q iv wr => ∃ k : Nat, k + q = 9 ∧ iv = .int .i64 (k : Nat) ∧ Hid (∀ j, j < k → symF j ≠ b) ∧ wr = w1)
  case atStart => exact ⟨0, by omega, rfl, Lib.hid fun j h => by omega, rfl⟩
  case round =>
    obtain ⟨k, hk, rfl, hq, rfl⟩ := hrel
    by_cases hk0 : k < 9
    · have hc : wr.cell? ⟨w.heap.size, k, none⟩ = some (.int .u8 ((symF k : Nat) : Int)) := HG.out k hk0
      obtain ⟨c, hcc⟩ : ∃ c, c = symF k := ⟨_, rfl⟩
      have hk9 : (k : Int) < 9 := by omega
      rw [← hcc] at hc
      have HC := Lib.hid hcc
      clear hcc
      by_cases he : b = c
      · have f1 : (((b : Nat) : Int) == ((c : Nat) : Int)) = true := by rw [he]; exact beq_self_eq_true _
        have HE := Lib.hid he
        clear he
        go_wp2_with fail
        go_ret
        exact Yd.yes (by
          rw [HE.out, HC.out]
          exact (mem_sym _).2 ⟨k, hk0, rfl⟩) hB
      · have f1 : (((b : Nat) : Int) == ((c : Nat) : Int)) = false := by rw [beq_eq_false_iff_ne]; omega
        have HE := Lib.hid he
        clear he
        go_wp2_with fail
        go_roundg (gk - 1)
        case rel => exact ⟨k + 1, by omega, by go_num, Lib.hid fun j hj => by
          by_cases hjk : j < k
          · exact hq.out j hjk
          · obtain rfl : j = k := by omega
            rw [← HC.out]
            exact fun e => HE.out e.symm, rfl⟩
        case measure => omega
    · obtain rfl : k = 9 := by omega
      go_wp2_with fail
      go_ret
      exact Yd.no (fun h => by
        obtain ⟨i, hi, e⟩ := (mem_sym b).1 h
        exact hq.out i hi e) hB

end Go.Proofs.YtcjaknojeaoffaaDoor
